/- PairCounts: both exported functions. -/
import Derived.Test.YtpgjomndfkkchaaDoorPcm
namespace Go.Proofs.YtpgjomndfkkchaaDoor
open Go.RowKit Go.Shelf
set_option linter.unusedVariables false

noncomputable def PairCounts_0 (n : Int) (xss : List (List Int)) : List Int := if desB n xss = true then prA n.toNat (prF xss.length (memP xss)) n.toNat else []
noncomputable def PairCounts_1 (n : Int) (xss : List (List Int)) : Int := if desB n xss = true then 0 else 1
theorem lenPairCounts_0 (n : Int) (xss : List (List Int)) : (PairCounts_0 n xss).length ≤ 2000000 := by
  unfold PairCounts_0
  split
  · rename_i h
    have := of_desB h
    have l := prA_len n.toNat (prF xss.length (memP xss)) n.toNat
    have := this.2.1
    have l3 : n.toNat * n.toNat ≤ 32 * 32 := Nat.mul_le_mul (by omega) (by omega)
    omega
  · simp

set_option maxRecDepth 100000 in
set_option maxHeartbeats 2000000 in
theorem sPairCounts (n : Int) (xss : List (List Int)) (W : World) (v : Value) (hv : RowsAt W v xss) :
    Calls Tryd.prog 24 #[.agg #[.int .i64 n, v]] W fun e w' => ∃ r, e = .returned (.tuple #[r, .int .i64 (PairCounts_1 n xss)]) ∧ IntsAt w' r (PairCounts_0 n xss) ∧ Below W.heap.size W w' := by
  obtain ⟨a, cap, rfl, -⟩ := hv.shape
  obtain ⟨m, hm⟩ : ∃ m, xss.length = m := ⟨_, rfl⟩
  rw [hm] at hv ⊢
  obtain ⟨B, hB⟩ : ∃ B, W.heap.size = B := ⟨_, rfl⟩
  obtain ⟨w1, hw1⟩ : ∃ w1, W.alloc (.cells #[.int .i64 n, .slice a m cap] 25) = w1 := ⟨_, rfl⟩
  have z1 : w1.heap.size = B + 1 := by rw [← hw1, World.size_alloc, hB]
  have b1 : Below B W w1 := by rw [← hw1]; exact (Below.refl _ _).alloc (by omega) _
  have A1 : w1.heap[B]? = some (.cells #[.int .i64 n, .slice a m cap] 25 (0, 0)) := by rw [← hw1, ← hB]; exact heap_alloc_new _ _
  have c0 : w1.cell? ⟨B, 0, none⟩ = some (.int .i64 n) := by rw [cell_of_row w1 B 0 _ _ _ A1]; rfl
  have c1 : w1.cell? ⟨B, 1, none⟩ = some (.slice a m cap) := by rw [cell_of_row w1 B 1 _ _ _ A1]; rfl
  have HO := Lib.hid (sOk n xss w1 _ B c0 c1 (hv.below b1 (by omega)))
  have HB := Lib.hid hB
  have B1 := Lib.hid b1
  cases hp : desB n xss with
  | false =>
    have V : Hid (PairCounts_0 n xss = [] ∧ PairCounts_1 n xss = 1) := by unfold Hid PairCounts_0 PairCounts_1; rw [hp]; exact ⟨rfl, rfl⟩
    rw [hp] at HO
    clear hp hv c0 c1 A1 b1
    go_enter Tryd.func24, Tryd.ntmps24
    go_wp2_with fail
    refine HO.out.mono ?_
    rintro e w2 ⟨rfl, d, rfl⟩
    go_wp2
    go_ret2
    exact ⟨_, by rw [V.out.2]; rfl, by rw [V.out.1]; exact nilAt _, by rw [HB.out]; exact below_drewN B1.out _⟩
  | true =>
    have D := of_desB hp
    have V : Hid (PairCounts_0 n xss = prA n.toNat (prF xss.length (memP xss)) n.toNat ∧ PairCounts_1 n xss = 0) := by unfold Hid PairCounts_0 PairCounts_1; rw [hp]; exact ⟨rfl, rfl⟩
    rw [hp] at HO
    obtain ⟨N, rfl⟩ : ∃ N : Nat, n = N := ⟨n.toNat, by have := D.1; omega⟩
    have HR := Lib.hid (fun d => sPairs N (by have := D.1; omega) (by have := D.2.1; omega) xss D.2.2.1 (w1.drewN d) _ B c0 c1 ((hv.below b1 (by omega)).drewN d))
    simp only [hm] at HR
    have VV : Hid (PairCounts_0 (N : Int) xss = prA N (prF m (memP xss)) N) := by rw [V.out.1, Int.toNat_natCast, hm]; rfl
    clear hp hv c0 c1 A1 b1 D
    go_enter Tryd.func24, Tryd.ntmps24
    go_wp2_with fail
    refine HO.out.mono ?_
    rintro e w2 ⟨rfl, d, rfl⟩
    go_wp2_with fail
    refine (HR.out d).mono ?_
    rintro e w3 ⟨r, rfl, i3, b3⟩
    have I3 := Lib.hid i3.at
    have B3 : Hid (Below B W w3) := (show Below B W (w1.drewN d) from below_drewN B1.out d).trans (b3.mono (by show B ≤ w1.heap.size; omega))
    obtain ⟨ra, rc, rfl, -, -⟩ := i3.at.shape
    clear i3 b3
    go_wp2
    go_ret2
    exact ⟨_, by rw [V.out.2]; rfl, by rw [VV.out]; exact I3.out, by rw [HB.out]; exact B3.out⟩

set_option maxRecDepth 100000 in
set_option maxHeartbeats 2000000 in
theorem iPairCounts (n : Int) (xss : List (List Int)) (hx : xss.length ≤ 1048576) (W : World) (v : Value) (hv : RowsAt W v xss) (ht : Tab W) :
    Calls Tryd.prog 25 #[.agg #[.int .i64 n, v]] W fun e w' => ∃ r, e = .returned (.tuple #[r, .int .i64 (PairCounts_1 n xss)]) ∧ Ints w' W.heap.size r (PairCounts_0 n xss) ∧ Below W.heap.size W w' := by
  obtain ⟨a, cap, rfl, -⟩ := hv.shape
  obtain ⟨m, hm⟩ : ∃ m, xss.length = m := ⟨_, rfl⟩
  rw [hm] at hv ⊢
  obtain ⟨B, hB⟩ : ∃ B, W.heap.size = B := ⟨_, rfl⟩
  have hpos : 0 < B := by rw [← hB]; exact ht.pos
  obtain ⟨w1, hw1⟩ : ∃ w1, W.alloc (.cells #[.int .i64 n, .slice a m cap] 25) = w1 := ⟨_, rfl⟩
  have z1 : w1.heap.size = B + 1 := by rw [← hw1, World.size_alloc, hB]
  have b1 : Below B W w1 := by rw [← hw1]; exact (Below.refl _ _).alloc (by omega) _
  have A1 : w1.heap[B]? = some (.cells #[.int .i64 n, .slice a m cap] 25 (0, 0)) := by rw [← hw1, ← hB]; exact heap_alloc_new _ _
  have c0 : w1.cell? ⟨B, 0, none⟩ = some (.int .i64 n) := by rw [cell_of_row w1 B 0 _ _ _ A1]; rfl
  have c1 : w1.cell? ⟨B, 1, none⟩ = some (.slice a m cap) := by rw [cell_of_row w1 B 1 _ _ _ A1]; rfl
  have HO := Lib.hid (iInc n xss hx w1 _ (hv.below b1 (by omega)) (ht.below b1 hpos))
  rw [z1] at HO
  have TB := Lib.hid ht
  have HB := Lib.hid hB
  have B1 := Lib.hid b1
  cases hp : desB n xss with
  | false =>
    have V : Hid (PairCounts_0 n xss = [] ∧ PairCounts_1 n xss = 1) := by unfold Hid PairCounts_0 PairCounts_1; rw [hp]; exact ⟨rfl, rfl⟩
    rw [hp] at HO
    clear hp hv A1 b1 ht
    go_enter Tryd.func25, Tryd.ntmps25
    go_wp2_with fail
    refine HO.out.mono ?_
    rintro e w2 ⟨z, rfl, ⟨hz, -⟩, b2⟩
    obtain rfl := hz rfl
    have s2 : B + 1 ≤ w2.heap.size := by have := b2.size; omega
    have B2 : Hid (Below B W w2) := B1.out.trans (b2.mono (by omega))
    have B3 : Hid (Below B W (w2.alloc (.cells #[.int .i64 0, .slice none 0 0] 58))) := B2.out.alloc (by omega) _
    clear b2 c0 c1
    go_wp2
    go_ret2
    exact ⟨_, by rw [V.out.2]; rfl, by rw [V.out.1]; exact nilI _ _, by rw [HB.out]; exact B3.out⟩
  | true =>
    have D := of_desB hp
    have V : Hid (PairCounts_0 n xss = prA n.toNat (prF xss.length (memP xss)) n.toNat ∧ PairCounts_1 n xss = 0) := by unfold Hid PairCounts_0 PairCounts_1; rw [hp]; exact ⟨rfl, rfl⟩
    rw [hp] at HO
    obtain ⟨N, rfl⟩ : ∃ N : Nat, n = N := ⟨n.toNat, by have := D.1; omega⟩
    have ND : 1 ≤ N ∧ N ≤ 32 := by have := D.1; have := D.2.1; omega
    have HD := Lib.hid D
    clear hp hv A1 b1 ht D
    go_enter Tryd.func25, Tryd.ntmps25
    go_wp2_with fail
    refine HO.out.mono ?_
    rintro e w2 ⟨z, rfl, ⟨-, hz⟩, b2⟩
    obtain ⟨g, S, rfl, hg, hU, hS⟩ := hz rfl
    rw [hm] at hU hS ⊢
    have s2 : B + 1 ≤ w2.heap.size := by have := b2.size; omega
    have B2 : Below B W w2 := B1.out.trans (b2.mono (by omega))
    have B3 : Below B W (w2.alloc (.cells #[.int .i64 (N : Int), .slice (some ⟨g, 0, none⟩) m m] 58)) := B2.alloc (by omega) _
    have U3 : Ub (w2.alloc (.cells #[.int .i64 (N : Int), .slice (some ⟨g, 0, none⟩) m m] 58)) g m S := (heap_alloc_old _ _ hU.lt).trans hU
    have HRE := Lib.hid (ipairs N m ND.1 ND.2 (by have := HD.out.2.2.1; omega) S g _ U3 (fun i hi => (hS i hi).1) (fun i hi k hk => by
      have e := (hS i hi).2 k
      rw [hk] at e
      have mem := of_decide_eq_true e.symm
      obtain ⟨q, hq, e2⟩ := List.mem_iff_getElem.1 mem
      have bk := (HD.out.2.2.2 i (by omega)).1.2 q hq
      unfold okAt at bk
      rw [List.getD_eq_getElem?_getD, List.getElem?_eq_getElem hq] at bk
      simp only [Option.getD_some, e2] at bk
      omega) (TB.out.below B3 hpos))
    have RE : Hid (prA N (prF m (fun i x => (S i).testBit x)) N = prA N (prF m (memP xss)) N) := by rw [prF_congr (fun i x hi => (hS i hi).2 x)]; rfl
    rw [RE.out] at HRE
    have sz3 : (w2.alloc (.cells #[.int .i64 (N : Int), .slice (some ⟨g, 0, none⟩) m m] 58)).heap.size = w2.heap.size + 1 := World.size_alloc _ _
    have N3 : (w2.alloc (.cells #[.int .i64 (N : Int), .slice (some ⟨g, 0, none⟩) m m] 58)).heap[w2.heap.size]? = some (.cells #[.int .i64 (N : Int), .slice (some ⟨g, 0, none⟩) m m] 58 (0, 0)) := heap_alloc_new _ _
    obtain ⟨w3, hw3⟩ : ∃ w3, w2.alloc (.cells #[.int .i64 (N : Int), .slice (some ⟨g, 0, none⟩) m m] 58) = w3 := ⟨_, rfl⟩
    rw [hw3] at HRE B3 sz3 N3
    have d0 : w3.cell? ⟨w2.heap.size, 0, none⟩ = some (.int .i64 (N : Int)) := by rw [cell_of_row w3 _ 0 _ _ _ N3]; rfl
    have d1 : w3.cell? ⟨w2.heap.size, 1, none⟩ = some (.slice (some ⟨g, 0, none⟩) m m) := by rw [cell_of_row w3 _ 1 _ _ _ N3]; rfl
    have HB3 := Lib.hid B3
    have HS3 : Hid (B ≤ w3.heap.size) := by unfold Hid; omega
    have VV : Hid (PairCounts_0 (N : Int) xss = prA N (prF m (memP xss)) N) := by rw [V.out.1, Int.toNat_natCast, hm]; rfl
    clear b2 c0 c1 hU hS U3 B3 N3 hg sz3
    go_wp2_with fail
    try rw [hw3]
    refine HRE.out.mono ?_
    rintro e w4 ⟨r, rfl, i4, b4⟩
    have I4 := Lib.hid (i4.mono HS3.out)
    have B4 : Hid (Below B W w4) := HB3.out.trans (b4.mono HS3.out)
    obtain ⟨ra, rc, rfl, -, -⟩ := i4.at.shape
    clear i4 b4 hw3 d0 d1
    go_wp2
    go_ret2
    exact ⟨_, by rw [V.out.2]; rfl, by rw [VV.out, HB.out]; exact I4.out, by rw [HB.out]; exact B4.out⟩
end Go.Proofs.YtpgjomndfkkchaaDoor
