/- SortDesign: the program's. -/
import Derived.Test.YtpckbhelnoeifaaDoorDso
namespace Go.Proofs.YtpckbhelnoeifaaDoor
open Go.RowKit Go.Shelf
set_option linter.unusedVariables false
set_option linter.unusedSimpArgs false

/-- The design with some blocks, by the document: number of points, blocks, code. -/
noncomputable def mkN (n : Int) (xss : List (List Int)) : Int := if blksB n xss then if 128 < xss.length then 0 else n else 0
noncomputable def mkL (n : Int) (xss : List (List Int)) : List (List Int) := if blksB n xss then if 128 < xss.length then [] else sortL xss else []
noncomputable def mkC (n : Int) (xss : List (List Int)) : Int := if blksB n xss then if 128 < xss.length then 5 else 0 else 1
theorem mk_no {n : Int} {xss : List (List Int)} (h : blksB n xss = false) : mkN n xss = 0 ∧ mkL n xss = [] ∧ mkC n xss = 1 := by
  unfold mkN mkL mkC; rw [h]; exact ⟨rfl, rfl, rfl⟩
theorem mk_des {n : Int} {xss : List (List Int)} {S : Nat → Nat} (hb : blksB n xss = true) (hS : SetsF xss xss.length S) : desN n xss.length S = mkN n xss ∧ desL xss.length S = mkL n xss ∧ desC xss.length S = mkC n xss := by
  have hz : zeroB xss.length S = false := zero_false fun i hi h => by
    obtain ⟨h1, h2, h3⟩ := of_blksB hb
    have b := h3 i hi
    have e := (hS i hi).2
    obtain ⟨r, hr⟩ : ∃ r, xss.getD i [] = r := ⟨_, rfl⟩
    rw [hr] at b e
    obtain ⟨x, hx⟩ : ∃ x, r.getD 0 0 = x := ⟨_, rfl⟩
    have q := b.2 0 b.1
    have hm : x ∈ r := by rw [← hx, List.getD_eq_getElem?_getD, List.getElem?_eq_getElem b.1]; exact List.getElem_mem _
    unfold okAt at q
    rw [hx] at q
    have e2 := e x.toNat
    rw [show ((x.toNat : Nat) : Int) = x by omega, decide_eq_true hm, h, Nat.zero_testBit] at e2
    cases e2
  unfold desN desL desC mkN mkL mkC
  rw [hz, hb, ptsL_of hb hS]
  exact ⟨rfl, rfl, rfl⟩

set_option maxRecDepth 100000 in
set_option maxHeartbeats 2000000 in
theorem iSortDesign (n : Int) (xss : List (List Int)) (hx : xss.length ≤ 1048576) (w : World) (v : Value) (hv : RowsAt w v xss) (ht : Tab w) :
    Calls Tryd.prog 21 #[.int .i64 n, v] w fun e w' => ∃ z, e = .returned (.tuple #[.agg #[.int .i64 (mkN n xss), z], .int .i64 (mkC n xss)]) ∧ RowsL w' w.heap.size w'.heap.size z (mkL n xss) ∧ Below w.heap.size w w' := by
  obtain ⟨B, hB⟩ : ∃ B, w.heap.size = B := ⟨_, rfl⟩
  obtain ⟨w0, hw0⟩ : ∃ w0, w.alloc (.cells #[.int .i64 0, .slice none 0 0] 30) = w0 := ⟨_, rfl⟩
  have b0 : Below B w w0 := by rw [← hw0]; exact (Below.refl _ _).alloc (Nat.le_of_eq hB.symm) _
  have z0 : w0.heap.size = B + 1 := by rw [← hw0, World.size_alloc, hB]
  have R0 : w0.heap[B]? = some (.cells #[.int .i64 0, .slice none 0 0] 30 (0, 0)) := by rw [← hw0, ← hB]; exact heap_alloc_new _ _
  have hpos : 0 < B := by rw [← hB]; exact ht.pos
  have HBS := Lib.hid (iBlockSets n xss hx w0 v (hv.below b0 (by omega)))
  have T0 := Lib.hid (ht.below b0 hpos)
  have HB := Lib.hid hB
  have B0 := Lib.hid b0
  have HR := Lib.hid R0
  obtain ⟨a, cap, rfl, -⟩ := hv.shape
  obtain ⟨m, hm⟩ : ∃ m, xss.length = m := ⟨_, rfl⟩
  rw [z0] at HBS
  cases hb : blksB n xss with
  | false =>
    have V := Lib.hid (mk_no hb)
    rw [hb] at HBS
    clear hb hv ht b0 R0
    rw [hm] at HBS ⊢
    go_enter Tryd.func21, Tryd.ntmps21
    go_wp2_with fail
    try rw [hw0]
    refine HBS.out.mono ?_
    rintro e w2 ⟨z, rfl, -, hz, b2⟩
    obtain ⟨za, zl, zc, rfl⟩ := hz trivial
    have R2 : w2.heap[B]? = some (.cells #[.int .i64 0, .slice none 0 0] 30 (0, 0)) := (b2.block B (by omega)).trans HR.out
    have f0 := frozen_of_row w2 B 0 _ _ R2
    have f1 := frozen_of_row w2 B 1 _ _ R2
    have d0 : w2.cell? ⟨B, 0, none⟩ = some (.int .i64 0) := by rw [cell_of_row w2 B 0 _ _ _ R2]; rfl
    have d1 : w2.cell? ⟨B, 1, none⟩ = some (.slice none 0 0) := by rw [cell_of_row w2 B 1 _ _ _ R2]; rfl
    have R2 := Lib.hid R2
    have B2 : Hid (Below B w w2) := B0.out.trans (b2.mono (by omega))
    clear b2
    go_wp2
    have R9 := set2_row w2 B _ _ (.int .i64 0) (.slice none 0 0) _ R2.out
    have B9 := (B2.out.setCell (p := ⟨B, 0, none⟩) (Nat.le_refl _) (.int .i64 0)).setCell (p := ⟨B, 1, none⟩) (Nat.le_refl _) (.slice none 0 0)
    have hld := run_loadVar_row (P := Tryd.prog) _ _ 30 30 #[.int .i64 0, .slice none 0 0] (0, 0) _ R9 Tryd.underlying30 rfl Tryd.infoDes
    refine bodyPost_ret (v := .tuple #[.agg #[.int .i64 0, .slice none 0 0], .int .i64 1]) ?_ rfl ⟨_, by rw [V.out.1, V.out.2.2], ?_, by rw [HB.out]; exact B9⟩
    · rw [results_cell_tmp rfl]
      simp [asAddr, Result.andThen, hld]
    · rw [V.out.2.1]; exact RowsL.nil _ _ _ (Nat.le_refl _)
  | true =>
    have HV := Lib.hid (fun S h => mk_des (S := S) hb h)
    rw [hb] at HBS
    clear hb hv ht b0 R0
    rw [hm] at HBS hx ⊢
    go_enter Tryd.func21, Tryd.ntmps21
    go_wp2_with fail
    try rw [hw0]
    refine HBS.out.mono ?_
    rintro e w2 ⟨z, rfl, hz, -, b2⟩
    obtain ⟨g, S, rfl, hg, hU, hS⟩ := hz trivial
    have V := Lib.hid (HV.out S (by rw [hm]; exact hS))
    rw [hm] at V
    have R2 : Hid (w2.heap[B]? = some (.cells #[.int .i64 0, .slice none 0 0] 30 (0, 0))) := (b2.block B (by omega)).trans HR.out
    have B2 : Hid (Below B w w2) := B0.out.trans (b2.mono (by omega))
    have HD := Lib.hid (ides n m g S hx w2 hU (fun i hi => (hS i hi).1) (by omega) (T0.out.below b2 (by omega)))
    have s2 : B + 1 ≤ w2.heap.size := by have := b2.size; omega
    have hlt := hU.lt
    clear b2 hU hS HV
    go_wp2_with fail
    refine HD.out.mono ?_
    rintro e w3 ⟨z, rfl, hL, hO⟩
    have R3 : w3.heap[B]? = some (.cells #[.int .i64 0, .slice none 0 0] 30 (0, 0)) := (hO.block B (by omega) (by omega)).trans R2.out
    have f0 := frozen_of_row w3 B 0 _ _ R3
    have f1 := frozen_of_row w3 B 1 _ _ R3
    have d0 : w3.cell? ⟨B, 0, none⟩ = some (.int .i64 0) := by rw [cell_of_row w3 B 0 _ _ _ R3]; rfl
    have d1 : w3.cell? ⟨B, 1, none⟩ = some (.slice none 0 0) := by rw [cell_of_row w3 B 1 _ _ _ R3]; rfl
    have R3 := Lib.hid R3
    have B3 : Hid (Below B w w3) := ⟨hO.os.trans B2.out.os, hO.tape.trans B2.out.tape, hO.output.trans B2.out.output, Nat.le_trans B2.out.size hO.size, fun k hk => (hO.block k (by omega) (by omega)).trans (B2.out.block k hk)⟩
    have L3 := Lib.hid hL
    obtain ⟨az, cz, ez⟩ : ∃ a c, z = .slice a (desL m S).length c := by obtain ⟨a, c, e, -⟩ := hL.at.shape; exact ⟨a, c, e⟩
    clear hL hO
    obtain ⟨lz, hlz⟩ : ∃ l, (desL m S).length = l := ⟨_, rfl⟩
    rw [hlz] at ez
    subst ez
    obtain ⟨qn, hqn⟩ : ∃ q, desN n m S = q := ⟨_, rfl⟩
    obtain ⟨qc, hqc⟩ : ∃ q, desC m S = q := ⟨_, rfl⟩
    rw [hqn, hqc]
    rw [hqn, hqc] at V
    clear hqn hqc hlz
    go_wp2
    have R9 := set2_row w3 B _ _ (.int .i64 qn) (.slice az lz cz) _ R3.out
    have B9 := (B3.out.setCell (p := ⟨B, 0, none⟩) (Nat.le_refl _) (.int .i64 qn)).setCell (p := ⟨B, 1, none⟩) (Nat.le_refl _) (.slice az lz cz)
    have L9 := RowsL.off2 L3.out (show B < w2.heap.size by omega) (.int .i64 qn) (.slice az lz cz)
    have hld := run_loadVar_row (P := Tryd.prog) _ _ 30 30 #[.int .i64 qn, .slice az lz cz] (0, 0) _ R9 Tryd.underlying30 rfl Tryd.infoDes
    refine bodyPost_ret (v := .tuple #[.agg #[.int .i64 qn, .slice az lz cz], .int .i64 qc]) ?_ rfl ⟨_, by rw [V.out.1, V.out.2.2], ?_, by rw [HB.out]; exact B9⟩
    · rw [results_cell_tmp rfl]
      simp [asAddr, Result.andThen, hld]
    · rw [← V.out.2.1]; exact L9.mono (by omega) (by simp [World.setCell]) (Nat.le_refl _)
end Go.Proofs.YtpckbhelnoeifaaDoor
