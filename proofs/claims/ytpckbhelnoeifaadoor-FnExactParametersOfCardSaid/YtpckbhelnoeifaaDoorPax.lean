/- ParametersOf: both exported functions. -/
import Derived.Test.YtpckbhelnoeifaaDoorPam
namespace Go.Proofs.YtpckbhelnoeifaaDoor
open Go.RowKit Go.Shelf
set_option linter.unusedVariables false
set_option linter.unusedSimpArgs false

theorem ends5 {fn : Func} (hfn : fn.results = #[.cell 2 27, .tmp 3]) (W : World) (q : Nat) (hk : W.heap[q]? = some (.cells #[.int .i64 0, .int .i64 0, .int .i64 0, .int .i64 0, .int .i64 0] 27 (0, 0))) (a b c d e : Int) (o : Value) (Φ : Ending → World → Prop)
    (hΦ : Φ (.returned (.tuple #[prm a b c d e, o])) (((((W.setCell ⟨q, 0, none⟩ (.int .i64 a)).setCell ⟨q, 1, none⟩ (.int .i64 b)).setCell ⟨q, 2, none⟩ (.int .i64 c)).setCell ⟨q, 3, none⟩ (.int .i64 d)).setCell ⟨q, 4, none⟩ (.int .i64 e))) (tmps : Array Value) (t2 : tmps.getD 2 undef = .pointer (some ⟨q, 0, none⟩)) (t3 : tmps.getD 3 undef = o) :
    bodyPost Tryd.prog fn Φ Exit.ret { tmps := tmps, defers := [] } (((((W.setCell ⟨q, 0, none⟩ (.int .i64 a)).setCell ⟨q, 1, none⟩ (.int .i64 b)).setCell ⟨q, 2, none⟩ (.int .i64 c)).setCell ⟨q, 3, none⟩ (.int .i64 d)).setCell ⟨q, 4, none⟩ (.int .i64 e)) := by
  obtain ⟨R9, -⟩ := five W q _ _ _ _ _ (.int .i64 a) (.int .i64 b) (.int .i64 c) (.int .i64 d) (.int .i64 e) _ hk
  obtain ⟨w9, hw9⟩ : ∃ w9, (((((W.setCell ⟨q, 0, none⟩ (.int .i64 a)).setCell ⟨q, 1, none⟩ (.int .i64 b)).setCell ⟨q, 2, none⟩ (.int .i64 c)).setCell ⟨q, 3, none⟩ (.int .i64 d)).setCell ⟨q, 4, none⟩ (.int .i64 e)) = w9 := ⟨_, rfl⟩
  rw [hw9] at R9 hΦ ⊢
  have hld := run_loadVar_row (P := Tryd.prog) _ _ 27 27 #[.int .i64 a, .int .i64 b, .int .i64 c, .int .i64 d, .int .i64 e] (0, 0) _ R9 Tryd.underlying27 rfl Tryd.infoPrm
  have t2' : tmps[2]?.getD undef = .pointer (some ⟨q, 0, none⟩) := by simpa using t2
  have t3' : tmps[3]?.getD undef = o := by simpa using t3
  refine bodyPost_ret (v := .tuple #[.agg #[.int .i64 a, .int .i64 b, .int .i64 c, .int .i64 d, .int .i64 e], o]) ?_ rfl hΦ
  rw [results_cell_tmp hfn]
  simp [asAddr, Result.andThen, t2', t3', hld]
theorem prm_form (n m : Nat) (Z P R : List Int) : ∃ a b c d e, parV n m Z P R = prm a b c d e := by
  unfold parV
  split <;> exact ⟨_, _, _, _, _, rfl⟩
/-- Whether a design is balanced. -/
noncomputable def dPar (n : Int) (xss : List (List Int)) : Bool := parO n.toNat xss.length (lens xss) (prA n.toNat (prF xss.length (memP xss)) n.toNat)
noncomputable def ParametersOf_0 (n : Int) (xss : List (List Int)) : Value := if desB n xss = true then parV n.toNat xss.length (lens xss) (prA n.toNat (prF xss.length (memP xss)) n.toNat) (repL n.toNat xss.length (memP xss)) else prm 0 0 0 0 0
noncomputable def ParametersOf_1 (n : Int) (xss : List (List Int)) : Int := if desB n xss = true then (if dPar n xss = true then 0 else 6) else 1
theorem form0 (n : Int) (xss : List (List Int)) : ∃ a b c d e, ParametersOf_0 n xss = prm a b c d e := by
  unfold ParametersOf_0
  split
  · exact prm_form _ _ _ _ _
  · exact ⟨_, _, _, _, _, rfl⟩
theorem parV_no {n m : Nat} {Z P R : List Int} (h : parO n m Z P = false) : parV n m Z P R = prm 0 0 0 0 0 := by unfold parV; rw [h]; rfl
/-- A store of five numbers over the zeros leaves what lies elsewhere. -/
theorem five_below (W : World) (q : Nat) (hk : W.heap[q]? = some (.cells #[.int .i64 0, .int .i64 0, .int .i64 0, .int .i64 0, .int .i64 0] 27 (0, 0))) (a b c d e : Int) (B : Nat) (w : World) (hB : B ≤ q) (hb : Below B w W) : Below B w (((((W.setCell ⟨q, 0, none⟩ (.int .i64 a)).setCell ⟨q, 1, none⟩ (.int .i64 b)).setCell ⟨q, 2, none⟩ (.int .i64 c)).setCell ⟨q, 3, none⟩ (.int .i64 d)).setCell ⟨q, 4, none⟩ (.int .i64 e)) := (five W q _ _ _ _ _ _ _ _ _ _ _ hk).2 B w hB hb

set_option maxRecDepth 100000 in
set_option maxHeartbeats 4000000 in
theorem sParametersOf (n : Int) (xss : List (List Int)) (W : World) (v : Value) (hv : RowsAt W v xss) :
    Calls Tryd.prog 13 #[.agg #[.int .i64 n, v]] W fun e w' => e = .returned (.tuple #[ParametersOf_0 n xss, .int .i64 (ParametersOf_1 n xss)]) ∧ Below W.heap.size W w' := by
  obtain ⟨a, cap, rfl, -⟩ := hv.shape
  obtain ⟨m, hm⟩ : ∃ m, xss.length = m := ⟨_, rfl⟩
  rw [hm] at hv ⊢
  obtain ⟨B, hB⟩ : ∃ B, W.heap.size = B := ⟨_, rfl⟩
  obtain ⟨w1, hw1⟩ : ∃ w1, W.alloc (.cells #[.int .i64 n, .slice a m cap] 30) = w1 := ⟨_, rfl⟩
  have z1 : w1.heap.size = B + 1 := by rw [← hw1, World.size_alloc, hB]
  have b1 : Below B W w1 := by rw [← hw1]; exact (Below.refl _ _).alloc (by omega) _
  have A1 : w1.heap[B]? = some (.cells #[.int .i64 n, .slice a m cap] 30 (0, 0)) := by rw [← hw1, ← hB]; exact heap_alloc_new _ _
  obtain ⟨w2, hw2⟩ : ∃ w2, w1.alloc (.cells #[.int .i64 0, .int .i64 0, .int .i64 0, .int .i64 0, .int .i64 0] 27) = w2 := ⟨_, rfl⟩
  have z2 : w2.heap.size = B + 2 := by rw [← hw2, World.size_alloc, z1]
  have b12 : Below (B + 1) w1 w2 := by rw [← hw2]; exact (Below.refl _ _).alloc (Nat.le_of_eq z1.symm) _
  have b2 : Below B W w2 := b1.trans (b12.mono (Nat.le_succ B))
  have R2 : w2.heap[B + 1]? = some (.cells #[.int .i64 0, .int .i64 0, .int .i64 0, .int .i64 0, .int .i64 0] 27 (0, 0)) := by rw [← hw2, ← z1]; exact heap_alloc_new _ _
  have A2 := (b12.block B (Nat.lt_succ_self B)).trans A1
  have c0 : w2.cell? ⟨B, 0, none⟩ = some (.int .i64 n) := by rw [cell_of_row w2 B 0 _ _ _ A2]; rfl
  have c1 : w2.cell? ⟨B, 1, none⟩ = some (.slice a m cap) := by rw [cell_of_row w2 B 1 _ _ _ A2]; rfl
  have HO := Lib.hid (sOk n xss w2 _ B c0 c1 (hv.below b2 (by omega)))
  have HB := Lib.hid hB
  have B2 := Lib.hid b2
  have RR := Lib.hid (fun d => (show (w2.drewN d).heap[B + 1]? = some (.cells #[.int .i64 0, .int .i64 0, .int .i64 0, .int .i64 0, .int .i64 0] 27 (0, 0)) from R2))
  obtain ⟨d0, d1, d2, d3, d4, f0, f1, f2, f3, f4⟩ := cells5 w2 (B + 1) _ _ _ _ _ _ R2
  cases hp : desB n xss with
  | false =>
    have V : Hid (prm 0 0 0 0 0 = ParametersOf_0 n xss ∧ 1 = ParametersOf_1 n xss) := by unfold Hid ParametersOf_0 ParametersOf_1; rw [hp]; exact ⟨rfl, rfl⟩
    rw [hp] at HO
    clear hp hv c0 c1 A1 b1 A2 R2 b12 b2
    go_enter Tryd.func13, Tryd.ntmps13
    go_wp2_with fail
    refine HO.out.mono ?_
    rintro e w3 ⟨rfl, d, rfl⟩
    go_wp2
    exact ends5 (fn := Tryd.f13) rfl _ (B + 1) (RR.out d) 0 0 0 0 0 _ _ ⟨by rw [← V.out.1, ← V.out.2]; rfl, by rw [HB.out]; exact five_below _ _ (RR.out d) 0 0 0 0 0 B W (Nat.le_succ B) (below_drewN B2.out d)⟩ _ rfl rfl
  | true =>
    have D := of_desB hp
    rw [hp] at HO
    obtain ⟨N, rfl⟩ : ∃ N : Nat, n = N := ⟨n.toNat, by have := D.1; omega⟩
    have HR := Lib.hid (fun d => sParams N (by have := D.1; omega) (by have := D.2.1; omega) xss D.2.2.1 (fun i hi => (D.2.2.2 i hi).1) (w2.drewN d) _ B c0 c1 ((hv.below b2 (by omega)).drewN d))
    have V0 : Hid (parV N xss.length (lens xss) (prA N (prF xss.length (memP xss)) N) (repL N xss.length (memP xss)) = ParametersOf_0 N xss) := by unfold Hid ParametersOf_0; rw [if_pos hp, Int.toNat_natCast]
    have V1 : Hid (ParametersOf_1 N xss = if parO N xss.length (lens xss) (prA N (prF xss.length (memP xss)) N) = true then 0 else 6) := by unfold Hid ParametersOf_1 dPar; rw [if_pos hp, Int.toNat_natCast]
    have VN := Lib.hid (fun h => parV_no (n := N) (m := xss.length) (Z := lens xss) (P := prA N (prF xss.length (memP xss)) N) (R := repL N xss.length (memP xss)) h)
    obtain ⟨va, vb, vc, vd, ve, hform⟩ := prm_form N xss.length (lens xss) (prA N (prF xss.length (memP xss)) N) (repL N xss.length (memP xss))
    simp only [hform] at HR V0 VN
    obtain ⟨o, ho⟩ : ∃ o, parO N xss.length (lens xss) (prA N (prF xss.length (memP xss)) N) = o := ⟨_, rfl⟩
    simp only [ho, prm] at HR
    simp only [ho] at V1 VN
    clear hp hv c0 c1 A1 b1 D hform ho A2 R2 b12 b2 hm
    cases o with
    | false =>
      have VN2 := Lib.hid (VN.out rfl)
      clear VN
      go_enter Tryd.func13, Tryd.ntmps13
      go_wp2_with fail
      refine HO.out.mono ?_
      rintro e w3 ⟨rfl, d, rfl⟩
      go_wp2_with fail
      refine (HR.out d).mono ?_
      rintro e w4 ⟨rfl, b4⟩
      obtain ⟨D, hD⟩ : ∃ D, w4.heap.size = D := ⟨_, rfl⟩
      have R4 : w4.heap[B + 1]? = some (.cells #[.int .i64 0, .int .i64 0, .int .i64 0, .int .i64 0, .int .i64 0] 27 (0, 0)) := (b4.block (B + 1) (by show B + 1 < w2.heap.size; omega)).trans (RR.out d)
      have B4 : Below B W w4 := (below_drewN B2.out d).trans (b4.mono (by show B ≤ w2.heap.size; omega))
      have zz : B + 2 ≤ D := by have : w2.heap.size ≤ w4.heap.size := b4.size; omega
      obtain ⟨w5, hw5⟩ : ∃ w5, w4.alloc (.cells #[.int .i64 va, .int .i64 vb, .int .i64 vc, .int .i64 vd, .int .i64 ve] 27) = w5 := ⟨_, rfl⟩
      have b45 : Below D w4 w5 := by rw [← hw5]; exact (Below.refl _ _).alloc (Nat.le_of_eq hD.symm) _
      have R5 := (b45.block (B + 1) (by omega)).trans R4
      have B5 : Below B W w5 := B4.trans (b45.mono (by omega))
      have D5 : w5.heap[D]? = some (.cells #[.int .i64 va, .int .i64 vb, .int .i64 vc, .int .i64 vd, .int .i64 ve] 27 (0, 0)) := by rw [← hw5, ← hD]; exact heap_alloc_new _ _
      obtain ⟨y0, y1, y2, y3, y4, -, -, -, -, -⟩ := cells5 w5 D _ _ _ _ _ _ D5
      obtain ⟨d0, d1, d2, d3, d4, f0, f1, f2, f3, f4⟩ := cells5 w5 (B + 1) _ _ _ _ _ _ R5
      have RR5 := Lib.hid R5
      have BB5 := Lib.hid B5
      clear b4 R4 B4 b45 R5 B5 D5
      go_wp2
      exact ends5 (fn := Tryd.f13) rfl _ (B + 1) RR5.out 0 0 0 0 0 _ _ ⟨by rw [← V0.out, ← VN2.out, V1.out]; rfl, by rw [HB.out]; exact five_below _ _ RR5.out 0 0 0 0 0 B W (Nat.le_succ B) BB5.out⟩ _ rfl rfl
    | true =>
      clear VN
      go_enter Tryd.func13, Tryd.ntmps13
      go_wp2_with fail
      refine HO.out.mono ?_
      rintro e w3 ⟨rfl, d, rfl⟩
      go_wp2_with fail
      refine (HR.out d).mono ?_
      rintro e w4 ⟨rfl, b4⟩
      obtain ⟨D, hD⟩ : ∃ D, w4.heap.size = D := ⟨_, rfl⟩
      have R4 : w4.heap[B + 1]? = some (.cells #[.int .i64 0, .int .i64 0, .int .i64 0, .int .i64 0, .int .i64 0] 27 (0, 0)) := (b4.block (B + 1) (by show B + 1 < w2.heap.size; omega)).trans (RR.out d)
      have B4 : Below B W w4 := (below_drewN B2.out d).trans (b4.mono (by show B ≤ w2.heap.size; omega))
      have zz : B + 2 ≤ D := by have : w2.heap.size ≤ w4.heap.size := b4.size; omega
      obtain ⟨w5, hw5⟩ : ∃ w5, w4.alloc (.cells #[.int .i64 va, .int .i64 vb, .int .i64 vc, .int .i64 vd, .int .i64 ve] 27) = w5 := ⟨_, rfl⟩
      have b45 : Below D w4 w5 := by rw [← hw5]; exact (Below.refl _ _).alloc (Nat.le_of_eq hD.symm) _
      have R5 := (b45.block (B + 1) (by omega)).trans R4
      have B5 : Below B W w5 := B4.trans (b45.mono (by omega))
      have D5 : w5.heap[D]? = some (.cells #[.int .i64 va, .int .i64 vb, .int .i64 vc, .int .i64 vd, .int .i64 ve] 27 (0, 0)) := by rw [← hw5, ← hD]; exact heap_alloc_new _ _
      obtain ⟨y0, y1, y2, y3, y4, -, -, -, -, -⟩ := cells5 w5 D _ _ _ _ _ _ D5
      obtain ⟨d0, d1, d2, d3, d4, f0, f1, f2, f3, f4⟩ := cells5 w5 (B + 1) _ _ _ _ _ _ R5
      have RR5 := Lib.hid R5
      have BB5 := Lib.hid B5
      clear b4 R4 B4 b45 R5 B5 D5
      go_wp2
      exact ends5 (fn := Tryd.f13) rfl _ (B + 1) RR5.out va vb vc vd ve _ _ ⟨by rw [← V0.out, V1.out]; rfl, by rw [HB.out]; exact five_below _ _ RR5.out va vb vc vd ve B W (Nat.le_succ B) BB5.out⟩ _ rfl rfl

theorem sz_lens {n : Int} {m : Nat} {xss : List (List Int)} {S : Nat → Nat} (hm : xss.length = m) (hn : n ≤ 32) (hb : ∀ i, i < m → isBlk n (xss.getD i [])) (hS : ∀ i, i < m → ∀ k : Nat, (S i).testBit k = decide ((k : Int) ∈ xss.getD i [])) : szS m S = lens xss := by
  unfold szS lens
  rw [hm]
  refine stL_congr fun i hi => ?_
  rw [← cnt_fls, blk_fls hn (hb i hi).2 (hS i hi)]

set_option maxRecDepth 100000 in
set_option maxHeartbeats 4000000 in
theorem iParametersOf (n : Int) (xss : List (List Int)) (hx : xss.length ≤ 1048576) (W : World) (v : Value) (hv : RowsAt W v xss) (ht : Tab W) :
    Calls Tryd.prog 15 #[.agg #[.int .i64 n, v]] W fun e w' => e = .returned (.tuple #[ParametersOf_0 n xss, .int .i64 (ParametersOf_1 n xss)]) ∧ Below W.heap.size W w' := by
  obtain ⟨a, cap, rfl, -⟩ := hv.shape
  obtain ⟨m, hm⟩ : ∃ m, xss.length = m := ⟨_, rfl⟩
  rw [hm] at hv ⊢
  obtain ⟨B, hB⟩ : ∃ B, W.heap.size = B := ⟨_, rfl⟩
  have hpos : 0 < B := by rw [← hB]; exact ht.pos
  obtain ⟨w1, hw1⟩ : ∃ w1, W.alloc (.cells #[.int .i64 n, .slice a m cap] 30) = w1 := ⟨_, rfl⟩
  have z1 : w1.heap.size = B + 1 := by rw [← hw1, World.size_alloc, hB]
  have b1 : Below B W w1 := by rw [← hw1]; exact (Below.refl _ _).alloc (by omega) _
  have A1 : w1.heap[B]? = some (.cells #[.int .i64 n, .slice a m cap] 30 (0, 0)) := by rw [← hw1, ← hB]; exact heap_alloc_new _ _
  obtain ⟨w2, hw2⟩ : ∃ w2, w1.alloc (.cells #[.int .i64 0, .int .i64 0, .int .i64 0, .int .i64 0, .int .i64 0] 27) = w2 := ⟨_, rfl⟩
  have z2 : w2.heap.size = B + 2 := by rw [← hw2, World.size_alloc, z1]
  have b12 : Below (B + 1) w1 w2 := by rw [← hw2]; exact (Below.refl _ _).alloc (Nat.le_of_eq z1.symm) _
  have b2 : Below B W w2 := b1.trans (b12.mono (Nat.le_succ B))
  have R2 : w2.heap[B + 1]? = some (.cells #[.int .i64 0, .int .i64 0, .int .i64 0, .int .i64 0, .int .i64 0] 27 (0, 0)) := by rw [← hw2, ← z1]; exact heap_alloc_new _ _
  have A2 := (b12.block B (Nat.lt_succ_self B)).trans A1
  have c0 : w2.cell? ⟨B, 0, none⟩ = some (.int .i64 n) := by rw [cell_of_row w2 B 0 _ _ _ A2]; rfl
  have c1 : w2.cell? ⟨B, 1, none⟩ = some (.slice a m cap) := by rw [cell_of_row w2 B 1 _ _ _ A2]; rfl
  have HO := Lib.hid (iInc n xss hx w2 _ (hv.below b2 (by omega)) (ht.below b2 hpos))
  rw [z2] at HO
  have TB := Lib.hid ht
  have HB := Lib.hid hB
  have B2 := Lib.hid b2
  have HR2 := Lib.hid R2
  cases hp : desB n xss with
  | false =>
    have V : Hid (prm 0 0 0 0 0 = ParametersOf_0 n xss ∧ 1 = ParametersOf_1 n xss) := by unfold Hid ParametersOf_0 ParametersOf_1; rw [hp]; exact ⟨rfl, rfl⟩
    rw [hp] at HO
    clear hp hv A1 b1 A2 R2 b12 b2 ht
    go_enter Tryd.func15, Tryd.ntmps15
    go_wp2_with fail
    refine HO.out.mono ?_
    rintro e w3 ⟨z, rfl, ⟨hz, -⟩, b3⟩
    obtain rfl := hz rfl
    have s3 : B + 2 ≤ w3.heap.size := by have := b3.size; omega
    have R3 := (b3.block (B + 1) (by omega)).trans HR2.out
    have B3 : Below B W w3 := B2.out.trans (b3.mono (by omega))
    have b34 : Below w3.heap.size w3 (w3.alloc (.cells #[.int .i64 0, .slice none 0 0] 61)) := (Below.refl _ _).alloc (Nat.le_refl _) _
    have R4 := (b34.block (B + 1) (by omega)).trans R3
    have B4 : Below B W (w3.alloc (.cells #[.int .i64 0, .slice none 0 0] 61)) := B3.trans (b34.mono (by omega))
    obtain ⟨d0, d1, d2, d3, d4, f0, f1, f2, f3, f4⟩ := cells5 (w3.alloc (.cells #[.int .i64 0, .slice none 0 0] 61)) (B + 1) _ _ _ _ _ _ R4
    have RR4 := Lib.hid R4
    have BB4 := Lib.hid B4
    clear b3 c0 c1 R3 B3 b34 R4 B4
    go_wp2
    exact ends5 (fn := Tryd.f15) rfl _ (B + 1) RR4.out 0 0 0 0 0 _ _ ⟨by rw [← V.out.1, ← V.out.2]; rfl, by rw [HB.out]; exact five_below _ _ RR4.out 0 0 0 0 0 B W (Nat.le_succ B) BB4.out⟩ _ rfl rfl
  | true =>
    have D := of_desB hp
    rw [hp] at HO
    obtain ⟨N, rfl⟩ : ∃ N : Nat, n = N := ⟨n.toNat, by have := D.1; omega⟩
    have ND : 1 ≤ N ∧ N ≤ 32 := by have := D.1; have := D.2.1; omega
    have HD := Lib.hid D
    have V0 : Hid (parV N m (lens xss) (prA N (prF m (memP xss)) N) (repL N m (memP xss)) = ParametersOf_0 N xss) := by unfold Hid ParametersOf_0; rw [if_pos hp, Int.toNat_natCast, hm]
    have V1 : Hid (ParametersOf_1 N xss = if parO N m (lens xss) (prA N (prF m (memP xss)) N) = true then 0 else 6) := by unfold Hid ParametersOf_1 dPar; rw [if_pos hp, Int.toNat_natCast, hm]
    clear hp hv A1 b1 A2 R2 b12 b2 ht D
    go_enter Tryd.func15, Tryd.ntmps15
    go_wp2_with fail
    refine HO.out.mono ?_
    rintro e w3 ⟨z, rfl, ⟨-, hz⟩, b3⟩
    obtain ⟨g, S, rfl, hg, hU, hS⟩ := hz rfl
    rw [hm] at hU hS ⊢
    have s3 : B + 2 ≤ w3.heap.size := by have := b3.size; omega
    have B3 : Below B W w3 := B2.out.trans (b3.mono (by omega))
    have R3 := (b3.block (B + 1) (by omega)).trans HR2.out
    obtain ⟨w4, hw4⟩ : ∃ w4, w3.alloc (.cells #[.int .i64 (N : Int), .slice (some ⟨g, 0, none⟩) m m] 61) = w4 := ⟨_, rfl⟩
    have b34 : Below w3.heap.size w3 w4 := by rw [← hw4]; exact (Below.refl _ _).alloc (Nat.le_refl _) _
    have B4 : Below B W w4 := B3.trans (b34.mono (by omega))
    have R4 := (b34.block (B + 1) (by omega)).trans R3
    have sz4 : w4.heap.size = w3.heap.size + 1 := by rw [← hw4, World.size_alloc]
    have N4 : w4.heap[w3.heap.size]? = some (.cells #[.int .i64 (N : Int), .slice (some ⟨g, 0, none⟩) m m] 61 (0, 0)) := by rw [← hw4]; exact heap_alloc_new _ _
    have e0 : w4.cell? ⟨w3.heap.size, 0, none⟩ = some (.int .i64 (N : Int)) := by rw [cell_of_row w4 _ 0 _ _ _ N4]; rfl
    have e1 : w4.cell? ⟨w3.heap.size, 1, none⟩ = some (.slice (some ⟨g, 0, none⟩) m m) := by rw [cell_of_row w4 _ 1 _ _ _ N4]; rfl
    have HR := Lib.hid (iParams N m ND.1 ND.2 (by have := HD.out.2.2.1; omega) S g w4 (hU.below b34 hU.lt) (fun i hi => (hS i hi).1) (fun i hi k hk => by
      have e := (hS i hi).2 k
      rw [hk] at e
      have mem := of_decide_eq_true e.symm
      obtain ⟨q, hq, e2⟩ := List.mem_iff_getElem.1 mem
      have bk := (HD.out.2.2.2 i (by omega)).1.2 q hq
      unfold okAt at bk
      rw [List.getD_eq_getElem?_getD, List.getElem?_eq_getElem hq] at bk
      simp only [Option.getD_some, e2] at bk
      omega) (TB.out.below B4 hpos))
    have E1 : szS m S = lens xss := sz_lens hm (show (N : Int) ≤ 32 by omega) (fun i hi => (HD.out.2.2.2 i (by omega)).1) (fun i hi k => (hS i hi).2 k)
    have E2 : prF m (fun i x => (S i).testBit x) = prF m (memP xss) := prF_congr fun i x hi => (hS i hi).2 x
    have E3 : repL N m (fun i x => (S i).testBit x) = repL N m (memP xss) := repL_congr fun i x hi => (hS i hi).2 x
    rw [E1, E2, E3] at HR
    have VN := Lib.hid (fun h => parV_no (n := N) (m := m) (Z := lens xss) (P := prA N (prF m (memP xss)) N) (R := repL N m (memP xss)) h)
    obtain ⟨va, vb, vc, vd, ve, hform⟩ := prm_form N m (lens xss) (prA N (prF m (memP xss)) N) (repL N m (memP xss))
    simp only [hform] at HR V0 VN
    obtain ⟨o, ho⟩ : ∃ o, parO N m (lens xss) (prA N (prF m (memP xss)) N) = o := ⟨_, rfl⟩
    simp only [ho, prm] at HR
    simp only [ho] at V1 VN
    have R4 := Lib.hid R4
    have B4 := Lib.hid B4
    have HS4 : Hid (B + 2 ≤ w4.heap.size) := by unfold Hid; omega
    clear b3 c0 c1 hU hS B3 R3 N4 hg b34 E1 E2 E3 hform ho sz4 s3
    go_wp2_with fail
    try rw [hw4]
    refine HR.out.mono ?_
    rintro e w5 ⟨rfl, b5⟩
    obtain ⟨D, hD⟩ : ∃ D, w5.heap.size = D := ⟨_, rfl⟩
    have hs4 := HS4.out
    have R5 := (b5.block (B + 1) (by omega)).trans R4.out
    have B5 : Below B W w5 := B4.out.trans (b5.mono (by omega))
    have zz : B + 2 ≤ D := by have := b5.size; omega
    obtain ⟨w6, hw6⟩ : ∃ w6, w5.alloc (.cells #[.int .i64 va, .int .i64 vb, .int .i64 vc, .int .i64 vd, .int .i64 ve] 27) = w6 := ⟨_, rfl⟩
    have b56 : Below D w5 w6 := by rw [← hw6]; exact (Below.refl _ _).alloc (Nat.le_of_eq hD.symm) _
    have R6 := (b56.block (B + 1) (by omega)).trans R5
    have B6 : Below B W w6 := B5.trans (b56.mono (by omega))
    have D6 : w6.heap[D]? = some (.cells #[.int .i64 va, .int .i64 vb, .int .i64 vc, .int .i64 vd, .int .i64 ve] 27 (0, 0)) := by rw [← hw6, ← hD]; exact heap_alloc_new _ _
    obtain ⟨y0, y1, y2, y3, y4, -, -, -, -, -⟩ := cells5 w6 D _ _ _ _ _ _ D6
    obtain ⟨d0, d1, d2, d3, d4, f0, f1, f2, f3, f4⟩ := cells5 w6 (B + 1) _ _ _ _ _ _ R6
    have RR6 := Lib.hid R6
    have BB6 := Lib.hid B6
    clear b5 R5 B5 b56 R6 B6 D6 hs4 hw4 e0 e1
    cases o with
    | false =>
      have VN2 := Lib.hid (VN.out rfl)
      clear VN
      go_wp2
      exact ends5 (fn := Tryd.f15) rfl _ (B + 1) RR6.out 0 0 0 0 0 _ _ ⟨by rw [← V0.out, ← VN2.out, V1.out]; rfl, by rw [HB.out]; exact five_below _ _ RR6.out 0 0 0 0 0 B W (Nat.le_succ B) BB6.out⟩ _ rfl rfl
    | true =>
      clear VN
      go_wp2
      exact ends5 (fn := Tryd.f15) rfl _ (B + 1) RR6.out va vb vc vd ve _ _ ⟨by rw [← V0.out, V1.out]; rfl, by rw [HB.out]; exact five_below _ _ RR6.out va vb vc vd ve B W (Nat.le_succ B) BB6.out⟩ _ rfl rfl
end Go.Proofs.YtpckbhelnoeifaaDoor
