/- RelabelDesign: the model. -/
import Derived.Test.YtpckbhelnoeifaaDoorDlw
import Derived.Test.YtpckbhelnoeifaaDoorInd
import Derived.Test.YtpckbhelnoeifaaDoorPr
namespace Go.Proofs.YtpckbhelnoeifaaDoor
open Go.RowKit Go.Shelf
set_option linter.unusedVariables false
set_option linter.unusedSimpArgs false

/-- The block i has the point k when its points are renamed. -/
def relP (xss : List (List Int)) (ps : List Int) (i k : Nat) : Bool := decide ((k : Int) ∈ tms (xss.getD i []) ps)
noncomputable def relOk (n : Int) (xss : List (List Int)) (ps : List Int) : Bool := desB n xss && pmB ps && decide ((ps.length : Int) = n)
noncomputable def RelabelDesign_N (n : Int) (xss : List (List Int)) (ps : List Int) : Int := if relOk n xss ps then n else 0
noncomputable def RelabelDesign_L (n : Int) (xss : List (List Int)) (ps : List Int) : List (List Int) := if relOk n xss ps then sortL (setsL xss.length 32 (relP xss ps)) else []
noncomputable def RelabelDesign_C (n : Int) (xss : List (List Int)) (ps : List Int) : Int := if relOk n xss ps then 0 else if desB n xss && pmB ps then 6 else 1
theorem rel_yes {n : Int} {xss : List (List Int)} {ps : List Int} (h1 : desB n xss = true) (h2 : pmB ps = true) (h3 : (ps.length : Int) = n) : RelabelDesign_N n xss ps = n ∧ RelabelDesign_L n xss ps = sortL (setsL xss.length 32 (relP xss ps)) ∧ RelabelDesign_C n xss ps = 0 := by
  unfold RelabelDesign_N RelabelDesign_L RelabelDesign_C relOk; rw [h1, h2, decide_eq_true h3]; exact ⟨rfl, rfl, rfl⟩
theorem rel_no1 {n : Int} {xss : List (List Int)} {ps : List Int} (h1 : (desB n xss && pmB ps) = false) : RelabelDesign_N n xss ps = 0 ∧ RelabelDesign_L n xss ps = [] ∧ RelabelDesign_C n xss ps = 1 := by
  unfold RelabelDesign_N RelabelDesign_L RelabelDesign_C relOk; rw [h1, Bool.false_and]; exact ⟨rfl, rfl, rfl⟩
theorem rel_no6 {n : Int} {xss : List (List Int)} {ps : List Int} (h1 : desB n xss = true) (h2 : pmB ps = true) (h3 : ¬ (ps.length : Int) = n) : RelabelDesign_N n xss ps = 0 ∧ RelabelDesign_L n xss ps = [] ∧ RelabelDesign_C n xss ps = 6 := by
  unfold RelabelDesign_N RelabelDesign_L RelabelDesign_C relOk; rw [h1, h2, decide_eq_false h3]; exact ⟨rfl, rfl, rfl⟩
theorem totRelabelDesign (n : Int) (xss : List (List Int)) (ps : List Int) : tot (RelabelDesign_L n xss ps) ≤ 5000 := by
  unfold RelabelDesign_L
  split
  · rename_i h
    unfold relOk at h
    rw [Bool.and_eq_true, Bool.and_eq_true] at h
    have d := of_desB h.1.1
    rw [tot_perm (sortL_perm _)]
    have b := setsL_tot xss.length 32 (relP xss ps)
    have c : xss.length * 32 ≤ 128 * 32 := Nat.mul_le_mul d.2.2.1 (Nat.le_refl _)
    omega
  · simp [tot]
/-- The points of the blocks are indices of the permutation, and what stands there are points. -/
def RelIn (xss : List (List Int)) (ps : List Int) : Prop := ∀ i, i < xss.length → (xss.getD i []).length ≤ 32 ∧ 0 < (xss.getD i []).length ∧ (∀ j, j < (xss.getD i []).length → 0 ≤ (xss.getD i []).getD j 0 ∧ (xss.getD i []).getD j 0 < ps.length) ∧ ∀ j, j < (xss.getD i []).length → ∃ t : Nat, ps.getD ((xss.getD i []).getD j 0).toNat 0 = t ∧ t < 32
theorem rel_img {xss : List (List Int)} {ps : List Int} (h : RelIn xss ps) {i : Nat} (hi : i < xss.length) : img ps (xss.getD i []) = fls 32 (relP xss ps i) := by
  have := img_fls (h i hi).2.2.2 (xss.getD i []).length (Nat.le_refl _)
  rw [List.take_length] at this
  exact this

set_option maxRecDepth 100000 in
set_option maxHeartbeats 4000000 in
theorem sRelImage (n : Int) (xss : List (List Int)) (ps : List Int) (w : World) (v u : Value) (g : Nat) (c0 : w.cell? ⟨g, 0, none⟩ = some (.int .i64 n)) (c1 : w.cell? ⟨g, 1, none⟩ = some v) (hv : RowsAt w v xss) (hu : IntsAt w u ps) (hin : RelIn xss ps) (h128 : xss.length ≤ 128) :
    Calls Tryd.prog 65 #[.pointer (some ⟨g, 0, none⟩), u] w fun e w' => ∃ z, e = .returned (.agg #[.int .i64 n, z]) ∧ RowsL w' w.heap.size w'.heap.size z (sortL (setsL xss.length 32 (relP xss ps))) ∧ Below w.heap.size w w' := by
  obtain ⟨a, cap, rfl, K⟩ := hv.rowsIn
  have hgB := World.block_lt_of_cell? w _ c0
  simp only at hgB
  obtain ⟨B, hB⟩ : ∃ B, w.heap.size = B := ⟨_, rfl⟩
  obtain ⟨m, hm⟩ : ∃ m, xss.length = m := ⟨_, rfl⟩
  rw [hB] at K hgB ⊢
  rw [hm] at K h128 c1 ⊢
  have HB := Lib.hid hB
  have DC := Lib.hid (fun W2 (h : Below B w W2) => And.intro (show W2.cell? ⟨g, 0, none⟩ = some (.int .i64 n) from (h.cell (p := ⟨g, 0, none⟩) hgB).trans c0) (show W2.cell? ⟨g, 1, none⟩ = some (.slice a m cap) from (h.cell (p := ⟨g, 1, none⟩) hgB).trans c1))
  have HK : Hid (∀ W2, Below B w W2 → ∀ j, j < m → ∃ g1 o1 u, a = some ⟨g1, o1, none⟩ ∧ W2.cell? ⟨g1, o1 + j, none⟩ = some u ∧ (∃ ua l uc, u = .slice ua l uc) ∧ IntsAt W2 u (xss.getD j [])) := fun W2 hW j hj => by
    obtain ⟨g1, o1, u, e1, e2, e3⟩ := K W2 hW j hj
    obtain ⟨ua, uc, e4, -, -⟩ := e3.shape
    exact ⟨g1, o1, u, e1, e2, ⟨ua, _, uc, e4⟩, e3⟩
  obtain ⟨F, hF⟩ : ∃ F, relP xss ps = F := ⟨_, rfl⟩
  have CI := Lib.hid (fun W2 x v2 (hx : x < m) (h : Below B w W2) (h2 : IntsAt W2 v2 (xss.getD x [])) => by
    have := sImage W2 u v2 ps (xss.getD x []) (hu.below h (Nat.le_of_eq hB)) h2 (hin x (by omega)).2.2.1 (by have := (hin x (by omega)).1; omega)
    rw [rel_img hin (by omega), hF] at this
    exact this)
  have GS : Hid (∀ x, setsL (x + 1) 32 F = setsL x 32 F ++ [fls 32 (F x)]) := fun x => setsL_succ x 32 F
  have GL : Hid (∀ x, (setsL x 32 F).length = x) := fun x => setsL_len x 32 F
  have HS := Lib.hid (fun W2 v2 (h : RowsAt W2 v2 (setsL m 32 F)) => sSort (setsL m 32 F) (by rw [setsL_len]; omega) (fun i hi => by rw [setsL_len] at hi; rw [setsL_at m 32 F i hi]; have := fls_len 32 (F i); omega) W2 v2 h)
  rw [hF]
  obtain ⟨w1, hw1⟩ : ∃ w1, w.alloc (.cells #[.int .i64 0, .slice none 0 0] 30) = w1 := ⟨_, rfl⟩
  have z1 : w1.heap.size = B + 1 := by rw [← hw1, World.size_alloc, hB]
  have b1 : Below B w w1 := by rw [← hw1]; exact (Below.refl _ _).alloc (Nat.le_of_eq hB.symm) _
  have R1 : w1.heap[B]? = some (.cells #[.int .i64 0, .slice none 0 0] 30 (0, 0)) := by rw [← hw1, ← hB]; exact heap_alloc_new _ _
  have BW : Hid (∀ W2, Below (B + 1) w1 W2 → Below B w W2) := fun W2 h => b1.trans (h.mono (by omega))
  have RW : Hid (∀ W2, Below (B + 1) w1 W2 → W2.heap[B]? = some (.cells #[.int .i64 0, .slice none 0 0] 30 (0, 0))) := fun W2 h => (h.block B (by omega)).trans R1
  have ZZ : Hid (w1.heap.size = B + 1) := z1
  have M0 : Hid (RowsL (w1.alloc (.cells #[] 47)) (B + 1) (w1.alloc (.cells #[] 47)).heap.size (.slice (some ⟨B + 1, 0, none⟩) 0 0) (setsL 0 32 F)) := by
    have := RowsL.made w1 (B + 1) 0 #[] (Nat.le_of_eq z1.symm) (by decide) rfl
    rw [← World.size_alloc w1 (.cells #[] 47), z1] at this
    exact this
  have B3 : Hid (Below (B + 1) w1 (w1.alloc (.cells #[] 47))) := (Below.refl _ _).alloc (Nat.le_of_eq z1.symm) _
  obtain ⟨w3, hw3⟩ : ∃ w3, w1.alloc (.cells #[] 47) = w3 := ⟨_, rfl⟩
  rw [hw3] at M0 B3
  clear hv K hF hin hu hm c0 c1 b1 R1
  go_enter Tryd.func65, Tryd.ntmps65
  go_wp2
  try rw [hw1]
  try rw [hw3]
  try rw [hB]
  clear hw3 hw1
  go_loopw [5, 6] (fun rv i wr => ∃ x : Nat, x ≤ m ∧ i = .int .i64 x ∧ Hid (RowsL wr (B + 1) wr.heap.size rv (setsL x 32 F)) ∧ Hid (Below (B + 1) w1 wr)) (fun _ i _ => m - (intOf i).toNat)
  case atStart => exact ⟨0, by omega, rfl, M0, B3⟩
  case round =>
    obtain ⟨x, hx, rfl, hR, hBl⟩ := hrel
    obtain ⟨c0, c1⟩ := DC.out wr (BW.out wr hBl.out)
    by_cases cx : x < m
    · have k1 : decide (x < m) = true := by simpa using cx
      have k1' : decide ((x : Int) < (m : Int)) = true := decide_eq_true (by omega)
      have w4 := IntWalk.i64_in ((x : Int) + 1) (by omega)
      have x0 : (0 : Int) ≤ (x : Int) := by omega
      have x1 : (x : Int) < (m : Int) := by omega
      have gx := GL.out x
      have gl : (setsL x 32 F).length < 1000000000 := by omega
      have SX := Lib.hid (GS.out x)
      have bz : B + 1 ≤ wr.heap.size := by have := hBl.out.size; have := ZZ.out; omega
      obtain ⟨g1, o1, ux, rfl, e2, ⟨ua, l, uc, rfl⟩, e3⟩ := HK.out wr (BW.out wr hBl.out) x cx
      have HC := Lib.hid (CI.out wr x _ cx (BW.out wr hBl.out) e3)
      obtain ⟨va, vc', rfl⟩ : ∃ a c, u5 = .slice a x c := by
        obtain ⟨a, c, h, -⟩ := hR.out.at.shape; rw [gx] at h; exact ⟨a, c, h⟩
      have HR5 := Lib.hid (fun W5 (h : Below wr.heap.size wr W5) => hR.out.below h (Nat.le_refl _))
      have HB5 := Lib.hid (fun W5 (h : Below wr.heap.size wr W5) => hBl.out.trans (h.mono bz))
      clear e3
      go_wp2_with fail
      refine HC.out.mono ?_
      rintro e w5 ⟨v5, rfl, i5, b5⟩
      have I5 := Lib.hid i5
      have R5 := Lib.hid (HR5.out w5 b5)
      have D5 := Lib.hid (HB5.out w5 b5)
      obtain ⟨ra, rc, hra⟩ := i5.len_eq
      obtain ⟨l5, hl5⟩ : ∃ l, (fls 32 (F x)).length = l := ⟨_, rfl⟩
      rw [hl5] at hra
      subst hra
      clear i5 b5 hl5
      go_wp2_with ((at_builtin; refine wpList_pushR w5 (by rfl) _ _ (by rfl) (B + 1) wr.heap.size _ _ _ _ (by rfl) R5.out I5.out _ (by rfl) gl bz ?_; intro v' w8 hn hb; have HN := Lib.hid hn; have HB8 := Lib.hid hb; clear hn hb))
      go_roundw
      case rel => exact ⟨x + 1, by omega, by go_num, by unfold Hid; rw [SX.out]; exact HN.out, D5.out.trans HB8.out⟩
      case measure => simp [intOf]; omega
    · have k1 : decide (x < m) = false := by simpa using cx
      have k1' : decide ((x : Int) < (m : Int)) = false := decide_eq_false (by omega)
      obtain rfl : x = m := by omega
      have HSo := Lib.hid (HS.out wr _ hR.out.at)
      obtain ⟨va, vc', rfl, -⟩ := hR.out.at.shape
      have sz : B + 1 ≤ wr.heap.size := by have := hBl.out.size; have := ZZ.out; omega
      have sW : B ≤ wr.heap.size := by omega
      have HSd := Lib.hid (HS.out wr.drew _ hR.out.at)
      have BD : Hid (Below (B + 1) w1 wr.drew) := hBl.out.drew
      have KC : Hid (∀ W5, Below wr.heap.size wr.drew W5 → W5.cell? ⟨g, 0, none⟩ = some (.int .i64 n)) := fun W5 h => (DC.out W5 (BW.out W5 (BD.out.trans (h.mono sz)))).1
      have KB : Hid (∀ W5, Below wr.heap.size wr.drew W5 → W5.heap[B]? = some (.cells #[.int .i64 0, .slice none 0 0] 30 (0, 0)) ∧ Below B w W5) := fun W5 h => ⟨RW.out W5 (BD.out.trans (h.mono sz)), BW.out W5 (BD.out.trans (h.mono sz))⟩
      have cd := KC.out wr.drew (Below.refl _ _)
      have KS : Hid (∀ (W5 : World) (v1 v2 : Value), W5.cell? ⟨g, 0, none⟩ = some (.int .i64 n) → ((W5.setCell ⟨B, 0, none⟩ v1).setCell ⟨B, 1, none⟩ v2).cell? ⟨g, 0, none⟩ = some (.int .i64 n)) := fun W5 v1 v2 h =>
        ((((Below.refl B W5).setCell (p := ⟨B, 0, none⟩) (Nat.le_refl B) v1).setCell (p := ⟨B, 1, none⟩) (Nat.le_refl B) v2).cell (p := ⟨g, 0, none⟩) hgB).trans h
      have KEY : Hid (∀ w5 z, RowsL w5 wr.drew.heap.size w5.heap.size z (sortL (setsL x 32 F)) → Below wr.drew.heap.size wr.drew w5 → ∃ ay ly cy, z = .slice ay ly cy ∧ Hid (RowsL w5 wr.heap.size w5.heap.size (.slice ay ly cy) (sortL (setsL x 32 F))) ∧ Hid (w5.heap[B]? = some (.cells #[.int .i64 0, .slice none 0 0] 30 (0, 0))) ∧ Hid (Below B w w5) ∧ w5.cell? ⟨g, 0, none⟩ = some (.int .i64 n) ∧ ((w5.setCell ⟨B, 0, none⟩ (.int .i64 n)).setCell ⟨B, 1, none⟩ (.slice ay ly cy)).cell? ⟨g, 0, none⟩ = some (.int .i64 n) ∧ w5.frozen? ⟨B, 0, none⟩ = false ∧ w5.frozen? ⟨B, 1, none⟩ = false ∧ w5.cell? ⟨B, 0, none⟩ = some (.int .i64 0) ∧ w5.cell? ⟨B, 1, none⟩ = some (.slice none 0 0)) := fun w5 z hL b5 => by
        obtain ⟨ay, ly, cy, rfl⟩ : ∃ a l c, z = .slice a l c := by obtain ⟨a, c, e, -⟩ := hL.at.shape; exact ⟨a, _, c, e⟩
        have c5 := KC.out w5 b5
        obtain ⟨rx, bx⟩ := KB.out w5 b5
        exact ⟨ay, ly, cy, rfl, hL, rx, bx, c5, KS.out w5 _ _ c5, frozen_of_row w5 B 0 _ _ rx, frozen_of_row w5 B 1 _ _ rx, by rw [cell_of_row w5 B 0 _ _ _ rx]; rfl, by rw [cell_of_row w5 B 1 _ _ _ rx]; rfl⟩
      clear HSo HS KC KB KS
      go_wp2_with fail
      refine wp_region_held_drew (S := fun w' => w'.cell? ⟨g, 0, none⟩ = some (.int .i64 n)) (by kernel_rfl) cd (fun hHeld => ?_)
      refine wpAnyH_take (i := 0) (oi := { dst := some 29, op := Op.move (Operand.tmp 0), type := 56, pos := "l10_designs.go:281", after := #[], guard := none }) (v := ?_) rfl (by kernel_rfl) (by kernel_rfl) (by kernel_rfl) (fun _ _ _ h => h) (Or.inl ⟨by rfl, ?_⟩) (by assumption) ?_
      rotate_left
      · intro w hSw; (try dsimp only at hSw); go_simp
        try with_reducible rfl
      simp only [Act.put, List.setIfInBounds_toArray, List.set_cons_zero, List.set_cons_succ]
      refine wpAnyH_take (i := 1) (oi := { dst := some 30, op := Op.nilCheck (Operand.tmp 29), type := 0, pos := "l10_designs.go:281", after := #[{ on := 0, ground := Ground.data }], guard := none }) (v := ?_) rfl (by kernel_rfl) (by kernel_rfl) (by kernel_rfl) (fun _ _ _ h => h) (Or.inl ⟨by rfl, ?_⟩) (by assumption) ?_
      rotate_left
      · intro w hSw; (try dsimp only at hSw); go_simp
        try with_reducible rfl
      simp only [Act.put, List.setIfInBounds_toArray, List.set_cons_zero, List.set_cons_succ]
      refine wpAnyH_take (i := 2) (oi := { dst := some 31, op := Op.fieldAddr 30 (Operand.tmp 30) 0, type := 0, pos := "l10_designs.go:281", after := #[{ on := 1, ground := Ground.data }], guard := none }) (v := ?_) rfl (by kernel_rfl) (by kernel_rfl) (by kernel_rfl) (fun _ _ _ h => h) (Or.inl ⟨by rfl, ?_⟩) (by assumption) ?_
      rotate_left
      · intro w hSw; (try dsimp only at hSw); go_simp
        try with_reducible rfl
      simp only [Act.put, List.setIfInBounds_toArray, List.set_cons_zero, List.set_cons_succ]
      refine wpAnyH_take (i := 3) (oi := { dst := some 32, op := Op.load 2 (Operand.tmp 31), type := 2, pos := "l10_designs.go:281", after := #[{ on := 2, ground := Ground.data }], guard := none }) (v := ?_) rfl (by kernel_rfl) (by kernel_rfl) (by kernel_rfl) (fun _ _ _ h => h) (Or.inl ⟨by rfl, ?_⟩) (by assumption) ?_
      rotate_left
      · intro w hSw; (try dsimp only at hSw); go_simp
        try with_reducible rfl
      simp only [Act.put, List.setIfInBounds_toArray, List.set_cons_zero, List.set_cons_succ]
      refine wpAnyH_take (i := 4) (oi := { dst := some 33, op := Op.move (Operand.tmp 5), type := 22, pos := "l10_designs.go:281", after := #[], guard := none }) (v := ?_) rfl (by kernel_rfl) (by kernel_rfl) (by kernel_rfl) (fun _ _ _ h => h) (Or.inl ⟨by rfl, ?_⟩) (by assumption) ?_
      rotate_left
      · intro w hSw; (try dsimp only at hSw); go_simp
        try with_reducible rfl
      simp only [Act.put, List.setIfInBounds_toArray, List.set_cons_zero, List.set_cons_succ]
      refine wpAnyH_ready (rs := [5]) (by kernel_rfl) (by simp) ?_
      refine AllReadyH.cons rfl (fun K' hK' => ?_) AllReadyH.nil
      go_simp
      go_wp2_with fail
      refine HSd.out.mono ?_
      rintro e w5 ⟨z, rfl, hL, b5⟩
      obtain ⟨ay, ly, cy, rfl, LX, RX, BX, c5, cS, f0, f1, d0, d1⟩ := KEY.out w5 z hL b5
      clear hL b5
      refine hK'.out _ _ c5 (fun hHeld => ?_)
      clear hK' K'
      refine wpAnyH_take (i := 6) (oi := { dst := some 35, op := Op.build 30 #[(0, Operand.tmp 32), (1, Operand.tmp 34)], type := 30, pos := "l10_designs.go:281", after := #[{ on := 3, ground := Ground.data }, { on := 5, ground := Ground.data }], guard := none }) (v := ?_) rfl (by kernel_rfl) (by kernel_rfl) (by kernel_rfl) (fun _ _ _ h => h) (Or.inl ⟨by rfl, ?_⟩) (by assumption) ?_
      rotate_left
      · intro w hSw; (try dsimp only at hSw); go_simp
        try with_reducible rfl
      simp only [Act.put, List.setIfInBounds_toArray, List.set_cons_zero, List.set_cons_succ]
      refine wpAnyH_ready (rs := [7]) (by kernel_rfl) (by simp) ?_
      refine AllReadyH.cons rfl (fun K' hK' => ?_) AllReadyH.nil
      go_simp
      refine hK'.out _ _ cS (fun hHeld => ?_)
      clear hK' K'
      refine wpAnyH_done (by kernel_rfl) ?_ _
      clear hHeld
      have R9 := set2_row w5 B _ _ (.int .i64 n) (.slice ay ly cy) _ RX.out
      have B9 := (BX.out.setCell (p := ⟨B, 0, none⟩) (by simp only; omega) (.int .i64 n)).setCell (p := ⟨B, 1, none⟩) (by simp only; omega) (.slice ay ly cy)
      have L9 := RowsL.off2 LX.out (show B < wr.heap.size by omega) (.int .i64 n) (.slice ay ly cy)
      go_wp2
      refine bodyPost_ret (v := .agg #[.int .i64 n, .slice ay ly cy]) (results_cell_row (p := 4) (ty := 30) rfl _ _ _ _ _ _ _ rfl R9 Tryd.underlying30 rfl (by kernel_rfl)) rfl ⟨_, rfl, L9.mono (by omega) (by simp [World.setCell]) (Nat.le_refl _), B9⟩

theorem rises_ge {hi : Int} {xs : List Int} (h : Rises 0 hi xs) : ∀ j, j < xs.length → (j : Int) ≤ xs.getD j 0
  | 0, hj => (h 0 hj).1
  | j + 1, hj => by
    have a := rises_ge h j (by omega)
    have b := (h (j + 1) hj).2.2 (by omega)
    rw [show j + 1 - 1 = j by omega] at b
    omega
theorem rel_in {n : Int} {xss : List (List Int)} {ps : List Int} (hd : Des n xss) (hp : IsPm ps) (hl : (ps.length : Int) = n) : RelIn xss ps := fun i hi => by
  have r := (hd.2.2.2 i hi).1
  have ge := rises_ge r.2
  have at' : ∀ j, j < (xss.getD i []).length → 0 ≤ (xss.getD i []).getD j 0 ∧ (xss.getD i []).getD j 0 < ps.length := fun j hj => ⟨(r.2 j hj).1, by have := (r.2 j hj).2.1; omega⟩
  refine ⟨?_, r.1, at', fun j hj => ?_⟩
  · have a := ge ((xss.getD i []).length - 1) (by have := r.1; omega)
    have b := (at' ((xss.getD i []).length - 1) (by have := r.1; omega)).2
    have := hp.1
    have := r.1
    omega
  · have a := at' j hj
    have k := hp.2 ((xss.getD i []).getD j 0).toNat (by omega)
    unfold okPm at k
    have := hp.1
    exact ⟨(ps.getD ((xss.getD i []).getD j 0).toNat 0).toNat, by omega, by omega⟩

set_option maxRecDepth 100000 in
set_option maxHeartbeats 4000000 in
theorem sRelabelDesign (n : Int) (xss : List (List Int)) (ps : List Int) (W : World) (v u : Value) (hv : RowsAt W v xss) (hu : IntsC W u ps) :
    Calls Tryd.prog 36 #[.agg #[.int .i64 n, v], u] W fun e w' => ∃ z, e = .returned (.tuple #[.agg #[.int .i64 (RelabelDesign_N n xss ps), z], .int .i64 (RelabelDesign_C n xss ps)]) ∧ RowsL w' W.heap.size w'.heap.size z (RelabelDesign_L n xss ps) ∧ Below W.heap.size W w' := by
  obtain ⟨a, cap, rfl, K⟩ := hv.rowsIn
  obtain ⟨pa, pc, rfl⟩ := hu.shape
  obtain ⟨lp, hlp⟩ : ∃ l, ps.length = l := ⟨_, rfl⟩
  rw [hlp] at hu ⊢
  obtain ⟨m, hm⟩ : ∃ m, xss.length = m := ⟨_, rfl⟩
  rw [hm] at hv K ⊢
  obtain ⟨B, hB⟩ : ∃ B, W.heap.size = B := ⟨_, rfl⟩
  rw [hB] at K
  obtain ⟨w1, hw1⟩ : ∃ w1, W.alloc (.cells #[.int .i64 n, .slice a m cap] 30) = w1 := ⟨_, rfl⟩
  have z1 : w1.heap.size = B + 1 := by rw [← hw1, World.size_alloc, hB]
  have b1 : Below B W w1 := by rw [← hw1]; exact (Below.refl _ _).alloc (by omega) _
  have A1 : w1.heap[B]? = some (.cells #[.int .i64 n, .slice a m cap] 30 (0, 0)) := by rw [← hw1, ← hB]; exact heap_alloc_new _ _
  obtain ⟨w2, hw2⟩ : ∃ w2, w1.alloc (.cells #[.int .i64 0, .slice none 0 0] 30) = w2 := ⟨_, rfl⟩
  have z2 : w2.heap.size = B + 2 := by rw [← hw2, World.size_alloc, z1]
  have b12 : Below (B + 1) w1 w2 := by rw [← hw2]; exact (Below.refl _ _).alloc (Nat.le_of_eq z1.symm) _
  have b2 : Below B W w2 := b1.trans (b12.mono (by omega))
  have A2 : w2.heap[B]? = some (.cells #[.int .i64 n, .slice a m cap] 30 (0, 0)) := (b12.block B (by omega)).trans A1
  have R2 : w2.heap[B + 1]? = some (.cells #[.int .i64 0, .slice none 0 0] 30 (0, 0)) := by rw [← hw2, ← z1]; exact heap_alloc_new _ _
  have c0 : w2.cell? ⟨B, 0, none⟩ = some (.int .i64 n) := by rw [cell_of_row w2 B 0 _ _ _ A2]; rfl
  have c1 : w2.cell? ⟨B, 1, none⟩ = some (.slice a m cap) := by rw [cell_of_row w2 B 1 _ _ _ A2]; rfl
  have HO := Lib.hid (sOk n xss w2 _ B c0 c1 (hv.below b2 (by omega)))
  have wl := IntWalk.i64_in (lp : Int) (by have := hu.1.1; omega)
  have HB := Lib.hid hB
  have DC := Lib.hid (fun W2 (h : Below (B + 2) w2 W2) => And.intro (show W2.cell? ⟨B, 0, none⟩ = some (.int .i64 n) from (h.cell (p := ⟨B, 0, none⟩) (show B < B + 2 by omega)).trans c0) (show W2.cell? ⟨B, 1, none⟩ = some (.slice a m cap) from (h.cell (p := ⟨B, 1, none⟩) (show B < B + 2 by omega)).trans c1))
  have BW := Lib.hid (fun W2 (h : Below (B + 2) w2 W2) => b2.trans (h.mono (show B ≤ B + 2 by omega)))
  have RW := Lib.hid (fun W2 (h : Below (B + 2) w2 W2) => (h.block (B + 1) (show B + 1 < B + 2 by omega)).trans R2)
  have ZZ : Hid (w2.heap.size = B + 2) := z2
  have HP := Lib.hid (fun W2 (h : Below (B + 2) w2 W2) => sok W2 _ ps (hu.below (BW.out W2 h) (by omega)))
  have D0 : Hid (∀ d, Below (B + 2) w2 (w2.drewN d)) := fun d => below_drewN (Below.refl _ _) d
  have HI := Lib.hid (fun (hd : Des n xss) (hp : IsPm ps) (hl : (ps.length : Int) = n) W2 (h : Below (B + 2) w2 W2) => sRelImage n xss ps W2 _ _ B (DC.out W2 h).1 (DC.out W2 h).2 (hv.below (BW.out W2 h) (by omega)) (hu.1.below (BW.out W2 h) (by omega)) (rel_in hd hp hl) hd.2.2.1)
  cases hp : desB n xss with
  | false =>
    have V := Lib.hid (rel_no1 (ps := ps) (show (desB n xss && pmB ps) = false by rw [hp]; rfl))
    rw [hp] at HO
    clear hp hv A1 A2 b1 b12 b2 K R2 hu
    go_enter Tryd.func36, Tryd.ntmps36
    go_wp2_with fail
    try rw [hw1]
    try rw [hw2]
    refine HO.out.mono ?_
    rintro e w3 ⟨rfl, d, rfl⟩
    have RX := Lib.hid (RW.out _ (D0.out d))
    have BX := Lib.hid (BW.out _ (D0.out d))
    obtain ⟨w4, hw4⟩ : ∃ W, w2.drewN d = W := ⟨_, rfl⟩
    rw [hw4] at RX BX ⊢
    clear hw4 c0 c1
    have f0 := frozen_of_row w4 (B + 1) 0 _ _ RX.out
    have f1 := frozen_of_row w4 (B + 1) 1 _ _ RX.out
    have d0 : w4.cell? ⟨B + 1, 0, none⟩ = some (.int .i64 0) := by rw [cell_of_row w4 (B + 1) 0 _ _ _ RX.out]; rfl
    have d1 : w4.cell? ⟨B + 1, 1, none⟩ = some (.slice none 0 0) := by rw [cell_of_row w4 (B + 1) 1 _ _ _ RX.out]; rfl
    go_wp2
    have R9 := set2_row w4 (B + 1) _ _ (.int .i64 0) (.slice none 0 0) _ RX.out
    have B9 := (BX.out.setCell (p := ⟨B + 1, 0, none⟩) (by simp only; omega) (.int .i64 0)).setCell (p := ⟨B + 1, 1, none⟩) (by simp only; omega) (.slice none 0 0)
    have hld := run_loadVar_row (P := Tryd.prog) _ _ 30 30 #[.int .i64 0, .slice none 0 0] (0, 0) _ R9 Tryd.underlying30 rfl Tryd.infoDes
    refine bodyPost_ret (v := .tuple #[.agg #[.int .i64 0, .slice none 0 0], .int .i64 1]) ?_ rfl ⟨_, by rw [V.out.1, V.out.2.2], ?_, by rw [HB.out]; exact B9⟩
    · rw [results_cell_tmp rfl]
      simp [asAddr, Result.andThen, hld]
    · rw [V.out.2.1]; exact RowsL.nil _ _ _ (Nat.le_refl _)
  | true =>
    rw [hp] at HO
    have hD := of_desB hp
    cases hq : pmB ps with
    | false =>
      have V := Lib.hid (rel_no1 (n := n) (xss := xss) (ps := ps) (show (desB n xss && pmB ps) = false by rw [hp, hq]; rfl))
      rw [hq] at HP
      clear hp hv A1 A2 b1 b12 b2 K R2 hu hq hD HI
      go_enter Tryd.func36, Tryd.ntmps36
      go_wp2_with fail
      try rw [hw1]
      try rw [hw2]
      refine HO.out.mono ?_
      rintro e w3 ⟨rfl, d, rfl⟩
      obtain ⟨w4, hw4⟩ : ∃ W, w2.drewN d = W := ⟨_, rfl⟩
      have D4 := Lib.hid (D0.out d)
      rw [hw4] at D4 ⊢
      clear hw4 c0 c1
      go_wp2_with fail
      refine (HP.out _ D4.out).mono ?_
      rintro e w5 ⟨rfl, d5, rfl⟩
      have D5 := Lib.hid (below_drewN D4.out d5)
      have RX := Lib.hid (RW.out _ D5.out)
      have BX := Lib.hid (BW.out _ D5.out)
      obtain ⟨w6, hw6⟩ : ∃ W, w4.drewN d5 = W := ⟨_, rfl⟩
      rw [hw6] at RX BX ⊢
      clear hw6 D5
      have f0 := frozen_of_row w6 (B + 1) 0 _ _ RX.out
      have f1 := frozen_of_row w6 (B + 1) 1 _ _ RX.out
      have d0 : w6.cell? ⟨B + 1, 0, none⟩ = some (.int .i64 0) := by rw [cell_of_row w6 (B + 1) 0 _ _ _ RX.out]; rfl
      have d1 : w6.cell? ⟨B + 1, 1, none⟩ = some (.slice none 0 0) := by rw [cell_of_row w6 (B + 1) 1 _ _ _ RX.out]; rfl
      go_wp2
      have R9 := set2_row w6 (B + 1) _ _ (.int .i64 0) (.slice none 0 0) _ RX.out
      have B9 := (BX.out.setCell (p := ⟨B + 1, 0, none⟩) (by simp only; omega) (.int .i64 0)).setCell (p := ⟨B + 1, 1, none⟩) (by simp only; omega) (.slice none 0 0)
      have hld := run_loadVar_row (P := Tryd.prog) _ _ 30 30 #[.int .i64 0, .slice none 0 0] (0, 0) _ R9 Tryd.underlying30 rfl Tryd.infoDes
      refine bodyPost_ret (v := .tuple #[.agg #[.int .i64 0, .slice none 0 0], .int .i64 1]) ?_ rfl ⟨_, by rw [V.out.1, V.out.2.2], ?_, by rw [HB.out]; exact B9⟩
      · rw [results_cell_tmp rfl]
        simp [asAddr, Result.andThen, hld]
      · rw [V.out.2.1]; exact RowsL.nil _ _ _ (Nat.le_refl _)
    | true =>
      have hM := of_pmB hq
      rw [hq] at HP
      by_cases hl : (lp : Int) = n
      · have V := Lib.hid (rel_yes hp hq (by rw [hlp]; exact hl))
        have HI2 := Lib.hid (HI.out hD hM (by rw [hlp]; exact hl))
        have q1 : ((lp : Int) != n) = false := by simp; exact hl
        obtain ⟨L, hL⟩ : ∃ L, sortL (setsL xss.length 32 (relP xss ps)) = L := ⟨_, rfl⟩
        rw [hL] at V HI2
        clear hp hv A1 A2 b1 b12 b2 K R2 hu hq hD hM HI hL hl
        go_enter Tryd.func36, Tryd.ntmps36
        go_wp2_with fail
        try rw [hw1]
        try rw [hw2]
        refine HO.out.mono ?_
        rintro e w3 ⟨rfl, d, rfl⟩
        obtain ⟨w4, hw4⟩ : ∃ W, w2.drewN d = W := ⟨_, rfl⟩
        have D4 := Lib.hid (D0.out d)
        rw [hw4] at D4 ⊢
        clear hw4 c0 c1
        go_wp2_with fail
        refine (HP.out _ D4.out).mono ?_
        rintro e w5 ⟨rfl, d5, rfl⟩
        have D5 := Lib.hid (below_drewN D4.out d5)
        obtain ⟨w6, hw6⟩ : ∃ W, w4.drewN d5 = W := ⟨_, rfl⟩
        rw [hw6] at D5 ⊢
        obtain ⟨c0, c1⟩ := DC.out w6 D5.out
        clear hw6
        go_wp2_with fail
        refine (HI2.out _ D5.out).mono ?_
        rintro e w9 ⟨z, rfl, hL, b9⟩
        have sz : B + 2 ≤ w6.heap.size := by have := D5.out.size; have := ZZ.out; omega
        have sW : W.heap.size ≤ w6.heap.size := by have := HB.out; omega
        have RX : Hid (w9.heap[B + 1]? = some (.cells #[.int .i64 0, .slice none 0 0] 30 (0, 0))) := (b9.block (B + 1) (by omega)).trans (RW.out w6 D5.out)
        have BX : Hid (Below B W w9) := (BW.out w6 D5.out).trans (b9.mono (by omega))
        obtain ⟨ay, ly, cy, rfl⟩ : ∃ a l c, z = .slice a l c := by obtain ⟨a, c, e, -⟩ := hL.at.shape; exact ⟨a, _, c, e⟩
        have LX := Lib.hid hL
        clear hL b9 c0 c1
        have f0 := frozen_of_row w9 (B + 1) 0 _ _ RX.out
        have f1 := frozen_of_row w9 (B + 1) 1 _ _ RX.out
        have d0 : w9.cell? ⟨B + 1, 0, none⟩ = some (.int .i64 0) := by rw [cell_of_row w9 (B + 1) 0 _ _ _ RX.out]; rfl
        have d1 : w9.cell? ⟨B + 1, 1, none⟩ = some (.slice none 0 0) := by rw [cell_of_row w9 (B + 1) 1 _ _ _ RX.out]; rfl
        go_wp2
        have R9 := set2_row w9 (B + 1) _ _ (.int .i64 n) (.slice ay ly cy) _ RX.out
        have B9 := (BX.out.setCell (p := ⟨B + 1, 0, none⟩) (by simp only; omega) (.int .i64 n)).setCell (p := ⟨B + 1, 1, none⟩) (by simp only; omega) (.slice ay ly cy)
        have L9 := RowsL.off2 LX.out (show B + 1 < w6.heap.size by omega) (.int .i64 n) (.slice ay ly cy)
        have hld := run_loadVar_row (P := Tryd.prog) _ _ 30 30 #[.int .i64 n, .slice ay ly cy] (0, 0) _ R9 Tryd.underlying30 rfl Tryd.infoDes
        refine bodyPost_ret (v := .tuple #[.agg #[.int .i64 n, .slice ay ly cy], .int .i64 0]) ?_ rfl ⟨_, by rw [V.out.1, V.out.2.2], ?_, by rw [HB.out]; exact B9⟩
        · rw [results_cell_tmp rfl]
          simp [asAddr, Result.andThen, hld]
        · rw [V.out.2.1]; exact L9.mono (by omega) (by simp [World.setCell]) (Nat.le_refl _)
      · have V := Lib.hid (rel_no6 hp hq (by rw [hlp]; exact hl))
        have q1 : ((lp : Int) != n) = true := by simp; exact hl
        clear hp hv A1 A2 b1 b12 b2 K R2 hu hq hD hM HI hl
        go_enter Tryd.func36, Tryd.ntmps36
        go_wp2_with fail
        try rw [hw1]
        try rw [hw2]
        refine HO.out.mono ?_
        rintro e w3 ⟨rfl, d, rfl⟩
        obtain ⟨w4, hw4⟩ : ∃ W, w2.drewN d = W := ⟨_, rfl⟩
        have D4 := Lib.hid (D0.out d)
        rw [hw4] at D4 ⊢
        clear hw4 c0 c1
        go_wp2_with fail
        refine (HP.out _ D4.out).mono ?_
        rintro e w5 ⟨rfl, d5, rfl⟩
        have D5 := Lib.hid (below_drewN D4.out d5)
        have RX := Lib.hid (RW.out _ D5.out)
        have BX := Lib.hid (BW.out _ D5.out)
        obtain ⟨w6, hw6⟩ : ∃ W, w4.drewN d5 = W := ⟨_, rfl⟩
        rw [hw6] at D5 RX BX ⊢
        obtain ⟨c0, c1⟩ := DC.out w6 D5.out
        clear hw6 D5
        have f0 := frozen_of_row w6 (B + 1) 0 _ _ RX.out
        have f1 := frozen_of_row w6 (B + 1) 1 _ _ RX.out
        have d0 : w6.cell? ⟨B + 1, 0, none⟩ = some (.int .i64 0) := by rw [cell_of_row w6 (B + 1) 0 _ _ _ RX.out]; rfl
        have d1 : w6.cell? ⟨B + 1, 1, none⟩ = some (.slice none 0 0) := by rw [cell_of_row w6 (B + 1) 1 _ _ _ RX.out]; rfl
        go_wp2
        have R9 := set2_row w6 (B + 1) _ _ (.int .i64 0) (.slice none 0 0) _ RX.out
        have B9 := (BX.out.setCell (p := ⟨B + 1, 0, none⟩) (by simp only; omega) (.int .i64 0)).setCell (p := ⟨B + 1, 1, none⟩) (by simp only; omega) (.slice none 0 0)
        have hld := run_loadVar_row (P := Tryd.prog) _ _ 30 30 #[.int .i64 0, .slice none 0 0] (0, 0) _ R9 Tryd.underlying30 rfl Tryd.infoDes
        refine bodyPost_ret (v := .tuple #[.agg #[.int .i64 0, .slice none 0 0], .int .i64 6]) ?_ rfl ⟨_, by rw [V.out.1, V.out.2.2], ?_, by rw [HB.out]; exact B9⟩
        · rw [results_cell_tmp rfl]
          simp [asAddr, Result.andThen, hld]
        · rw [V.out.2.1]; exact RowsL.nil _ _ _ (Nat.le_refl _)

/-! RelabelDesign: the program's. -/
section
open Go.RowKit Go.Shelf
set_option linter.unusedVariables false
set_option linter.unusedSimpArgs false

/-- The first x sets are renamed. -/
def RelS (xss : List (List Int)) (ps : List Int) (m : Nat) (S : Nat → Nat) (x : Nat) (T : Nat → Nat) : Prop := ∀ k, k < m → (k < x → T k < 4294967296 ∧ ∀ i, (T k).testBit i = (decide (i < 32) && relP xss ps k i)) ∧ (x ≤ k → T k = S k)
theorem RelS.zero (xss : List (List Int)) (ps : List Int) (m : Nat) (S : Nat → Nat) : RelS xss ps m S 0 S := fun k hk => ⟨fun h => by omega, fun _ => rfl⟩
theorem RelS.put {xss : List (List Int)} {ps : List Int} {m x z : Nat} {S T : Nat → Nat} (h : RelS xss ps m S x T) (hz : PsOut (tms (xss.getD x []) ps) z) : RelS xss ps m S (x + 1) (updN T x z) := fun k hk => by
  unfold updN
  by_cases e : k = x
  · subst e
    rw [if_pos rfl]
    refine ⟨fun _ => ⟨hz.1, fun i => ?_⟩, fun c => by omega⟩
    by_cases c : i < 32
    · rw [decide_eq_true c, Bool.true_and, hz.2 i]; rfl
    · rw [decide_eq_false c, Bool.false_and]
      exact Nat.testBit_lt_two_pow (Nat.lt_of_lt_of_le hz.1 (by rw [show (4294967296 : Nat) = 2 ^ 32 by decide]; exact Nat.pow_le_pow_right (by omega) (by omega)))
  · rw [if_neg e]
    exact ⟨fun c => (h k hk).1 (by omega), fun c => (h k hk).2 (by omega)⟩
theorem pts_block {n : Int} {xs : List Int} {s : Nat} (hr : Rises 0 (n - 1) xs) (hn : n ≤ 32) (hs : ∀ k : Nat, s.testBit k = decide ((k : Int) ∈ xs)) : fls 32 (fun k => s.testBit k) = xs := by
  refine sorted_ext _ _ (fls_sorted _ _) (rises_sorted hr) fun z => ?_
  rw [fls_mem]
  constructor
  · rintro ⟨k, h1, h2, rfl⟩
    rw [hs k] at h2
    exact of_decide_eq_true h2
  · intro hz
    obtain ⟨q, hq, e⟩ := List.mem_iff_getElem.1 hz
    have b := hr q hq
    unfold okAt at b
    rw [List.getD_eq_getElem?_getD, List.getElem?_eq_getElem hq] at b
    simp only [Option.getD_some, e] at b
    refine ⟨z.toNat, by omega, ?_, by omega⟩
    rw [hs, decide_eq_true_eq, show ((z.toNat : Nat) : Int) = z by omega]
    exact hz

set_option maxRecDepth 100000 in
set_option maxHeartbeats 4000000 in
theorem iRelabelDesign (n : Int) (xss : List (List Int)) (ps : List Int) (hx : xss.length ≤ 1048576) (W : World) (v u : Value) (hv : RowsAt W v xss) (hu : IntsC W u ps) (ht : Tab W) :
    Calls Tryd.prog 38 #[.agg #[.int .i64 n, v], u] W fun e w' => ∃ z, e = .returned (.tuple #[.agg #[.int .i64 (RelabelDesign_N n xss ps), z], .int .i64 (RelabelDesign_C n xss ps)]) ∧ RowsL w' W.heap.size w'.heap.size z (RelabelDesign_L n xss ps) ∧ Below W.heap.size W w' := by
  obtain ⟨a, cap, rfl, K⟩ := hv.rowsIn
  obtain ⟨pa, pc, rfl⟩ := hu.shape
  obtain ⟨lp, hlp⟩ : ∃ l, ps.length = l := ⟨_, rfl⟩
  rw [hlp] at hu ⊢
  obtain ⟨m, hm⟩ : ∃ m, xss.length = m := ⟨_, rfl⟩
  rw [hm] at hv K ⊢
  obtain ⟨B, hB⟩ : ∃ B, W.heap.size = B := ⟨_, rfl⟩
  rw [hB] at K
  obtain ⟨w1, hw1⟩ : ∃ w1, W.alloc (.cells #[.int .i64 n, .slice a m cap] 30) = w1 := ⟨_, rfl⟩
  have z1 : w1.heap.size = B + 1 := by rw [← hw1, World.size_alloc, hB]
  have b1 : Below B W w1 := by rw [← hw1]; exact (Below.refl _ _).alloc (by omega) _
  have A1 : w1.heap[B]? = some (.cells #[.int .i64 n, .slice a m cap] 30 (0, 0)) := by rw [← hw1, ← hB]; exact heap_alloc_new _ _
  obtain ⟨w2, hw2⟩ : ∃ w2, w1.alloc (.cells #[.int .i64 0, .slice none 0 0] 30) = w2 := ⟨_, rfl⟩
  have z2 : w2.heap.size = B + 2 := by rw [← hw2, World.size_alloc, z1]
  have b12 : Below (B + 1) w1 w2 := by rw [← hw2]; exact (Below.refl _ _).alloc (Nat.le_of_eq z1.symm) _
  have b2 : Below B W w2 := b1.trans (b12.mono (by omega))
  have A2 : w2.heap[B]? = some (.cells #[.int .i64 n, .slice a m cap] 30 (0, 0)) := (b12.block B (by omega)).trans A1
  have R2 : w2.heap[B + 1]? = some (.cells #[.int .i64 0, .slice none 0 0] 30 (0, 0)) := by rw [← hw2, ← z1]; exact heap_alloc_new _ _
  have c0 : w2.cell? ⟨B, 0, none⟩ = some (.int .i64 n) := by rw [cell_of_row w2 B 0 _ _ _ A2]; rfl
  have c1 : w2.cell? ⟨B, 1, none⟩ = some (.slice a m cap) := by rw [cell_of_row w2 B 1 _ _ _ A2]; rfl
  have hpos : 0 < B := by rw [← hB]; exact ht.pos
  have HO := Lib.hid (iInc n xss hx w2 _ (hv.below b2 (by omega)) (ht.below b2 hpos))
  rw [z2] at HO
  have wl := IntWalk.i64_in (lp : Int) (by have := hu.1.1; omega)
  have TB := Lib.hid ht
  have HB := Lib.hid hB
  have B2 := Lib.hid b2
  have HR := Lib.hid R2
  have HU : Hid (∀ W2, Below B W W2 → IntsC W2 (.slice pa lp pc) ps) := fun W2 h => hu.below h (by omega)
  have HP := Lib.hid (fun W2 (h : Below B W W2) => iok W2 _ ps (HU.out W2 h))
  cases hp : desB n xss with
  | false =>
    have V := Lib.hid (rel_no1 (ps := ps) (show (desB n xss && pmB ps) = false by rw [hp]; rfl))
    rw [hp] at HO
    clear hp hv A1 A2 b1 b12 b2 K R2 ht hu
    go_enter Tryd.func38, Tryd.ntmps38
    go_wp2_with fail
    try rw [hw1]
    try rw [hw2]
    refine HO.out.mono ?_
    rintro e w3 ⟨z, rfl, ⟨hz, -⟩, b3⟩
    obtain rfl := hz rfl
    have s3 : B + 2 ≤ w3.heap.size := by have := b3.size; omega
    have bb : Below (B + 2) w3 (w3.alloc (.cells #[.int .i64 0, .slice none 0 0] 61)) := (Below.refl _ _).alloc s3 _
    have RX : Hid ((w3.alloc (.cells #[.int .i64 0, .slice none 0 0] 61)).heap[B + 1]? = some (.cells #[.int .i64 0, .slice none 0 0] 30 (0, 0))) := (bb.block (B + 1) (by omega)).trans ((b3.block (B + 1) (by omega)).trans HR.out)
    have BX : Hid (Below B W (w3.alloc (.cells #[.int .i64 0, .slice none 0 0] 61))) := (B2.out.trans (b3.mono (by omega))).trans (bb.mono (by omega))
    obtain ⟨w4, hw4⟩ : ∃ W, w3.alloc (.cells #[.int .i64 0, .slice none 0 0] 61) = W := ⟨_, rfl⟩
    rw [hw4] at RX BX
    have Hw4 := Lib.hid hw4
    clear b3 bb c0 c1 hw4
    go_upto_region 2 with fail
    rw [Hw4.out]
    have f0 := frozen_of_row w4 (B + 1) 0 _ _ RX.out
    have f1 := frozen_of_row w4 (B + 1) 1 _ _ RX.out
    have d0 : w4.cell? ⟨B + 1, 0, none⟩ = some (.int .i64 0) := by rw [cell_of_row w4 (B + 1) 0 _ _ _ RX.out]; rfl
    have d1 : w4.cell? ⟨B + 1, 1, none⟩ = some (.slice none 0 0) := by rw [cell_of_row w4 (B + 1) 1 _ _ _ RX.out]; rfl
    go_wp2
    have R9 := set2_row w4 (B + 1) _ _ (.int .i64 0) (.slice none 0 0) _ RX.out
    have B9 := (BX.out.setCell (p := ⟨B + 1, 0, none⟩) (by simp only; omega) (.int .i64 0)).setCell (p := ⟨B + 1, 1, none⟩) (by simp only; omega) (.slice none 0 0)
    have hld := run_loadVar_row (P := Tryd.prog) _ _ 30 30 #[.int .i64 0, .slice none 0 0] (0, 0) _ R9 Tryd.underlying30 rfl Tryd.infoDes
    refine bodyPost_ret (v := .tuple #[.agg #[.int .i64 0, .slice none 0 0], .int .i64 1]) ?_ rfl ⟨_, by rw [V.out.1, V.out.2.2], ?_, by rw [HB.out]; exact B9⟩
    · rw [results_cell_tmp rfl]
      simp [asAddr, Result.andThen, hld]
    · rw [V.out.2.1]; exact RowsL.nil _ _ _ (Nat.le_refl _)
  | true =>
    have D := of_desB hp
    have m128 : m ≤ 128 := by have := D.2.2.1; omega
    obtain ⟨N, rfl⟩ : ∃ N : Nat, n = N := ⟨n.toNat, by have := D.1; omega⟩
    have n32 : N ≤ 32 := by have := D.2.1; omega
    rw [hp] at HO
    have MID : Hid (∀ g w3, B + 2 ≤ w3.heap.size → g < w3.heap.size → B + 2 ≤ g → Below (B + 2) w2 w3 → ∀ S, Ub w3 g m S → ∃ w4 D, w3.alloc (.cells #[.int .i64 (N : Int), .slice (some ⟨g, 0, none⟩) m m] 61) = w4 ∧ w3.heap.size = D ∧ g < D ∧ B + 2 ≤ D ∧ Below B W w4 ∧ w4.heap[D]? = some (.cells #[.int .i64 (N : Int), .slice (some ⟨g, 0, none⟩) m m] 61 (0, 0)) ∧ w4.heap[B + 1]? = some (.cells #[.int .i64 0, .slice none 0 0] 30 (0, 0)) ∧ Ub w4 g m S ∧ w4.heap.size = D + 1) := fun g w3 h1 h2 h3 b3 S hU => by
      have b4 : Below w3.heap.size w3 (w3.alloc (.cells #[.int .i64 (N : Int), .slice (some ⟨g, 0, none⟩) m m] 61)) := (Below.refl _ _).alloc (Nat.le_refl _) _
      exact ⟨_, _, rfl, rfl, h2, h1, (B2.out.trans (b3.mono (by omega))).trans (b4.mono (by omega)), heap_alloc_new _ _, (b4.block (B + 1) (by omega)).trans ((b3.block (B + 1) (by omega)).trans HR.out), hU.below b4 h2, World.size_alloc _ _⟩
    cases hq : pmB ps with
    | false =>
      have V := Lib.hid (rel_no1 (n := (N : Int)) (xss := xss) (ps := ps) (show (desB (N : Int) xss && pmB ps) = false by rw [hp, hq]; rfl))
      rw [hq] at HP
      clear hp hv A1 A2 b1 b12 b2 K R2 ht hu D hq
      go_enter Tryd.func38, Tryd.ntmps38
      go_wp2_with fail
      try rw [hw1]
      try rw [hw2]
      refine HO.out.mono ?_
      rintro e w3 ⟨z, rfl, ⟨-, hz⟩, b3⟩
      obtain ⟨g, S, rfl, hg, hU, hS⟩ := hz rfl
      rw [hm] at hU hS ⊢
      obtain ⟨w4, Dk, hw4, hD, hgD, hBD, B4, N4, R4, U4, z4⟩ := MID.out g w3 (by have := b3.size; omega) hU.lt hg b3 S hU
      have Hw4 := Lib.hid hw4
      have RX4 := Lib.hid R4
      have BX4 := Lib.hid B4
      have sB : B ≤ w4.heap.size := by omega
      have sB2 : B + 1 < w4.heap.size := by omega
      clear b3 c0 c1 hw1 hw2 hw4 hU hS N4 R4 B4 U4 z4
      go_upto_region 2 with fail
      rw [Hw4.out]
      clear Hw4
      go_wp2_with fail
      refine (HP.out w4 BX4.out).mono ?_
      rintro e w5 ⟨rfl, b5⟩
      have RX : Hid (w5.heap[B + 1]? = some (.cells #[.int .i64 0, .slice none 0 0] 30 (0, 0))) := (b5.block (B + 1) sB2).trans RX4.out
      have BX : Hid (Below B W w5) := BX4.out.trans (b5.mono sB)
      have s5 : B + 1 < w5.heap.size := by have := b5.size; omega
      clear b5
      have f0 := frozen_of_row w5 (B + 1) 0 _ _ RX.out
      have f1 := frozen_of_row w5 (B + 1) 1 _ _ RX.out
      have d0 : w5.cell? ⟨B + 1, 0, none⟩ = some (.int .i64 0) := by rw [cell_of_row w5 (B + 1) 0 _ _ _ RX.out]; rfl
      have d1 : w5.cell? ⟨B + 1, 1, none⟩ = some (.slice none 0 0) := by rw [cell_of_row w5 (B + 1) 1 _ _ _ RX.out]; rfl
      go_wp2
      have R9 := set2_row w5 (B + 1) _ _ (.int .i64 0) (.slice none 0 0) _ RX.out
      have B9 := (BX.out.setCell (p := ⟨B + 1, 0, none⟩) (by simp only; omega) (.int .i64 0)).setCell (p := ⟨B + 1, 1, none⟩) (by simp only; omega) (.slice none 0 0)
      have hld := run_loadVar_row (P := Tryd.prog) _ _ 30 30 #[.int .i64 0, .slice none 0 0] (0, 0) _ R9 Tryd.underlying30 rfl Tryd.infoDes
      refine bodyPost_ret (v := .tuple #[.agg #[.int .i64 0, .slice none 0 0], .int .i64 1]) ?_ rfl ⟨_, by rw [V.out.1, V.out.2.2], ?_, by rw [HB.out]; exact B9⟩
      · rw [results_cell_tmp rfl]
        simp [asAddr, Result.andThen, hld]
      · rw [V.out.2.1]; exact RowsL.nil _ _ _ (Nat.le_refl _)
    | true =>
      rw [hq] at HP
      by_cases hl : (lp : Int) = (N : Int)
      · have V0 := Lib.hid (rel_yes hp hq (by rw [hlp]; exact hl))
        have q1 : ((lp : Int) != (N : Int)) = false := by simp; omega
        have q2 : (lp != N) = false := by simp; omega
        have hin := rel_in D (of_pmB hq) (by rw [hlp]; exact hl)
        have HIN := Lib.hid hin
        have lp32 : ps.length ≤ 32 := (of_pmB hq).1
        have HD := Lib.hid D
        clear hp hv A1 A2 b1 b12 b2 K R2 ht hu D hq hl hin
        go_enter Tryd.func38, Tryd.ntmps38
        go_wp2_with fail
        try rw [hw1]
        try rw [hw2]
        refine HO.out.mono ?_
        rintro e w3 ⟨z, rfl, ⟨-, hz⟩, b3⟩
        obtain ⟨g, S, rfl, hg, hU, hS⟩ := hz rfl
        rw [hm] at hU hS ⊢
        obtain ⟨w4, Dk, hw4, hD, hgD, hBD, B4, N4, R4, U4, z4⟩ := MID.out g w3 (by have := b3.size; omega) hU.lt hg b3 S hU
        have Hw4 := Lib.hid hw4
        have RX4 := Lib.hid R4
        have BX4 := Lib.hid B4
        have NX4 := Lib.hid N4
        have UX4 := Lib.hid U4
        have sB : B ≤ w4.heap.size := by omega
        have sB2 : B + 1 < w4.heap.size := by omega
        have sD : Dk < w4.heap.size := by omega
        have sG : g < w4.heap.size := by omega
        have HS := Lib.hid hS
        clear b3 c0 c1 hw1 hw2 hw4 hU hS N4 R4 B4 U4 z4
        go_upto_region 2 with fail
        rw [Hw4.out]
        clear Hw4
        go_wp2_with fail
        refine (HP.out w4 BX4.out).mono ?_
        rintro e w5 ⟨rfl, b5⟩
        obtain ⟨K, hK⟩ : ∃ K : World → Prop, K = fun W2 => W2.heap[Dk]? = some (.cells #[.int .i64 (N : Int), .slice (some ⟨g, 0, none⟩) m m] 61 (0, 0)) ∧ W2.heap[B + 1]? = some (.cells #[.int .i64 0, .slice none 0 0] 30 (0, 0)) ∧ Below B W W2 ∧ Dk < W2.heap.size := ⟨_, rfl⟩
        have K5 : Hid (K w5) := by rw [hK]; exact ⟨(b5.block Dk sD).trans NX4.out, (b5.block (B + 1) sB2).trans RX4.out, BX4.out.trans (b5.mono sB), by have := b5.size; omega⟩
        have U5 : Hid (Ub w5 g m S) := UX4.out.below b5 sG
        have KN : Hid (∀ (W1 W2 : World), Below W1.heap.size W1 W2 → Hid (K W1) → Hid (K W2)) := fun W1 W2 bb h => by
          rw [hK] at h ⊢
          have q := h.out.2.2.2
          exact ⟨(bb.block Dk q).trans h.out.1, (bb.block (B + 1) (by omega)).trans h.out.2.1, h.out.2.2.1.trans (bb.mono (by omega)), Nat.lt_of_lt_of_le q bb.size⟩
        have KP : Hid (∀ (W1 : World) (x : Nat) (v : Value), Hid (K W1) → Hid (K (W1.setCell ⟨g, x, none⟩ v))) := fun W1 x v h => by
          rw [hK] at h ⊢
          have hz : (W1.setCell ⟨g, x, none⟩ v).heap.size = W1.heap.size := by simp [World.setCell]
          exact ⟨(Below.heap_setCell W1 ⟨g, x, none⟩ v Dk (show Dk ≠ g by omega)).trans h.out.1, (Below.heap_setCell W1 ⟨g, x, none⟩ v (B + 1) (show B + 1 ≠ g by omega)).trans h.out.2.1, h.out.2.2.1.setCell (p := ⟨g, x, none⟩) (show B ≤ g by omega) v, by rw [hz]; exact h.out.2.2.2⟩
        have KC : Hid (∀ W1, Hid (K W1) → W1.cell? ⟨Dk, 0, none⟩ = some (.int .i64 (N : Int)) ∧ W1.cell? ⟨Dk, 1, none⟩ = some (.slice (some ⟨g, 0, none⟩) m m)) := fun W1 h => by
          rw [hK] at h
          exact ⟨by rw [cell_of_row W1 Dk 0 _ _ _ h.out.1]; rfl, by rw [cell_of_row W1 Dk 1 _ _ _ h.out.1]; rfl⟩
        have KO : Hid (∀ W1, Hid (K W1) → W1.heap[B + 1]? = some (.cells #[.int .i64 0, .slice none 0 0] 30 (0, 0)) ∧ Below B W W1 ∧ Dk < W1.heap.size) := fun W1 h => by rw [hK] at h; exact h.out.2
        have RZ : Hid (RelS xss ps m S 0 S) := RelS.zero xss ps m S
        obtain ⟨e0, e1⟩ := KC.out w5 K5
        clear b5 hK RX4 BX4 NX4 UX4
        go_wp2
        go_loopw [32] (fun i wr => ∃ x : Nat, x ≤ m ∧ i = .int .i64 x ∧ Hid (K wr) ∧ ∃ T, Hid (Ub wr g m T) ∧ Hid (RelS xss ps m S x T)) (fun i _ => m - (intOf i).toNat)
        case atStart => exact ⟨0, by omega, rfl, K5, S, U5, RZ⟩
        case round =>
          clear e0 e1
          obtain ⟨x, hx, rfl, hKw, T, hU, hT⟩ := hrel
          obtain ⟨e0, e1⟩ := KC.out wr hKw
          by_cases cx : x < m
          · have k1 : decide (x < m) = true := by simpa using cx
            have k1' : decide ((x : Int) < (m : Int)) = true := decide_eq_true (by omega)
            have wx := IntWalk.i64_in ((x : Int) + 1) (by omega)
            have x0 : (0 : Int) ≤ (x : Int) := by omega
            have x1 : (x : Int) < (m : Int) := by omega
            have mm := hU.out.cell x cx
            rw [(hT.out x cx).2 (Nat.le_refl _)] at mm
            have hUd : Hid (Ub wr.drew g m T) := hU.out
            obtain ⟨r0, B1, sDw⟩ := KO.out wr hKw
            have hKd : Hid (K wr.drew) := KN.out wr wr.drew (Below.refl _ _).drew hKw
            have PTS : fls 32 (fun k => (S x).testBit k) = xss.getD x [] := pts_block (HD.out.2.2.2 x (by omega)).1.2 (by omega) (HS.out x cx).2
            have HPT := ipoints (S x) wr.drew (HS.out x cx).1 (TB.out.below B1.drew hpos)
            rw [PTS] at HPT
            have HPT := Lib.hid HPT
            have hi := HIN.out x (by omega)
            have HIM := Lib.hid (fun w5 v5 (h5 : IntsAt w5 v5 (xss.getD x [])) (b5 : Below wr.drew.heap.size wr.drew w5) => iimset w5 _ v5 ps (xss.getD x []) (HU.out w5 (B1.drew.trans (b5.mono (show B ≤ wr.heap.size by have := B1.size; have := HB.out; omega)))).1 h5 hi.2.2.1 hi.2.2.2 (by omega) (by omega))
            have gz : g < wr.heap.size := hU.out.lt
            have KEY : Hid (∀ w6 z, Below wr.drew.heap.size wr.drew w6 → PsOut (tms (xss.getD x []) ps) z → (w6.cell? ⟨Dk, 0, none⟩ = some (.int .i64 (N : Int)) ∧ w6.cell? ⟨Dk, 1, none⟩ = some (.slice (some ⟨g, 0, none⟩) m m)) ∧ (∃ old, w6.cell? ⟨g, x, none⟩ = some old) ∧ w6.frozen? ⟨g, x, none⟩ = false ∧ ((w6.setCell ⟨g, x, none⟩ (.int .u32 (z : Nat))).cell? ⟨Dk, 0, none⟩ = some (.int .i64 (N : Int)) ∧ (w6.setCell ⟨g, x, none⟩ (.int .u32 (z : Nat))).cell? ⟨Dk, 1, none⟩ = some (.slice (some ⟨g, 0, none⟩) m m)) ∧ Hid (K (w6.setCell ⟨g, x, none⟩ (.int .u32 (z : Nat)))) ∧ Hid (Ub (w6.setCell ⟨g, x, none⟩ (.int .u32 (z : Nat))) g m (updN T x z)) ∧ Hid (RelS xss ps m S (x + 1) (updN T x z))) := fun w6 z b6 hz => by
              have k6 := KN.out wr.drew w6 b6 hKd
              have u6 : Ub w6 g m T := hUd.out.below b6 gz
              have k8 := KP.out w6 x (.int .u32 (z : Nat)) k6
              exact ⟨KC.out w6 k6, ⟨_, u6.cell x cx⟩, u6.frozen x, KC.out _ k8, k8, u6.set x z, hT.out.put hz⟩
            have KE5 : Hid (∀ w5, Below wr.drew.heap.size wr.drew w5 → w5.cell? ⟨Dk, 0, none⟩ = some (.int .i64 (N : Int)) ∧ w5.cell? ⟨Dk, 1, none⟩ = some (.slice (some ⟨g, 0, none⟩) m m)) := fun w5 b5 => KC.out w5 (KN.out wr.drew w5 b5 hKd)
            have eD := KC.out wr.drew hKd
            have m0 : wr.cell? ⟨g, x, none⟩ = some (.int .u32 (S x : Nat)) := mm
            obtain ⟨s, hs⟩ : ∃ s, S x = s := ⟨_, rfl⟩
            rw [hs] at mm m0 HPT
            clear hs PTS hi r0 B1 hU hT hUd hKd hKw
            go_upto_region 9 with fail
            clear e0 e1
            refine wp_region_held_drew (S := fun w' => w'.cell? ⟨Dk, 0, none⟩ = some (.int .i64 (N : Int)) ∧ w'.cell? ⟨Dk, 1, none⟩ = some (.slice (some ⟨g, 0, none⟩) m m)) (by kernel_rfl) eD (fun hHeld => ?_)
            refine wpAnyH_take (i := 0) (oi := { dst := some 37, op := Op.fieldAddr 61 (Operand.tmp 6) 1, type := 0, pos := "l10_designs.go:374", after := #[], guard := none }) (v := ?_) rfl (by kernel_rfl) (by kernel_rfl) (by kernel_rfl) (fun _ _ _ h => h) (Or.inl ⟨by rfl, ?_⟩) (by assumption) ?_
            rotate_left
            · intro w hSw; (try dsimp only at hSw); go_simp
              try with_reducible rfl
            simp only [Act.put, List.setIfInBounds_toArray, List.set_cons_zero, List.set_cons_succ]
            refine wpAnyH_take (i := 1) (oi := { dst := some 38, op := Op.load 59 (Operand.tmp 37), type := 59, pos := "l10_designs.go:374", after := #[{ on := 0, ground := Ground.data }], guard := none }) (v := ?_) rfl (by kernel_rfl) (by kernel_rfl) (by kernel_rfl) (fun _ _ _ h => h) (Or.inl ⟨by rfl, ?_⟩) (by assumption) ?_
            rotate_left
            · intro w hSw; (try dsimp only at hSw); go_simp
              try with_reducible rfl
            simp only [Act.put, List.setIfInBounds_toArray, List.set_cons_zero, List.set_cons_succ]
            refine wpAnyH_take (i := 2) (oi := { dst := some 39, op := Op.move (Operand.tmp 8), type := 3, pos := "l10_designs.go:374", after := #[], guard := none }) (v := ?_) rfl (by kernel_rfl) (by kernel_rfl) (by kernel_rfl) (fun _ _ _ h => h) (Or.inl ⟨by rfl, ?_⟩) (by assumption) ?_
            rotate_left
            · intro w hSw; (try dsimp only at hSw); go_simp
              try with_reducible rfl
            simp only [Act.put, List.setIfInBounds_toArray, List.set_cons_zero, List.set_cons_succ]
            refine wpAnyH_take (i := 3) (oi := { dst := some 40, op := Op.move (Operand.tmp 1), type := 47, pos := "l10_designs.go:374", after := #[], guard := none }) (v := ?_) rfl (by kernel_rfl) (by kernel_rfl) (by kernel_rfl) (fun _ _ _ h => h) (Or.inl ⟨by rfl, ?_⟩) (by assumption) ?_
            rotate_left
            · intro w hSw; (try dsimp only at hSw); go_simp
              try with_reducible rfl
            simp only [Act.put, List.setIfInBounds_toArray, List.set_cons_zero, List.set_cons_succ]
            refine wpAnyH_take (i := 4) (oi := { dst := some 41, op := Op.move (Operand.tmp 9), type := 72, pos := "l10_designs.go:374", after := #[], guard := none }) (v := ?_) rfl (by kernel_rfl) (by kernel_rfl) (by kernel_rfl) (fun _ _ _ h => h) (Or.inl ⟨by rfl, ?_⟩) (by assumption) ?_
            rotate_left
            · intro w hSw; (try dsimp only at hSw); go_simp
              try with_reducible rfl
            simp only [Act.put, List.setIfInBounds_toArray, List.set_cons_zero, List.set_cons_succ]
            refine wpAnyH_ready (rs := [5]) (by kernel_rfl) (by simp) ?_
            refine AllReadyH.cons rfl (fun K' hK' => ?_) AllReadyH.nil
            go_simp
            go_wp2_with fail
            refine HPT.out.mono ?_
            rintro e w5 ⟨v5, rfl, i5, b5⟩
            have I5 := Lib.hid i5
            have HI6 := Lib.hid (HIM.out w5 v5 I5.out.at b5)
            have s5 := b5.size
            have e5 := KE5.out w5 b5
            refine hK'.out _ _ (e5) (fun hHeld => ?_)
            clear hK' K'
            refine wpAnyH_ready (rs := [6]) (by kernel_rfl) (by simp) ?_
            refine AllReadyH.cons rfl (fun K' hK' => ?_) AllReadyH.nil
            go_simp
            go_wp2_with fail
            refine HI6.out.mono ?_
            rintro e w6 ⟨z, rfl, hz, b6⟩
            obtain ⟨f1, ⟨old, f2⟩, f3, f4, f5, f6, f7⟩ := KEY.out w6 z (b5.trans (b6.mono s5)) hz
            have F5 := Lib.hid f5.out
            have F6 := Lib.hid f6.out
            have F7 := Lib.hid f7.out
            clear hz b6 b5 f5 f6 f7 i5
            refine hK'.out _ _ (f1) (fun hHeld => ?_)
            clear hK' K'
            refine wpAnyH_take (i := 7) (oi := { dst := some 44, op := Op.indexAddr 59 (Operand.tmp 38) (Operand.tmp 39), type := 0, pos := "l10_designs.go:374", after := #[{ on := 1, ground := Ground.data }, { on := 2, ground := Ground.data }, { on := 0, ground := Ground.phase }, { on := 1, ground := Ground.phase }, { on := 2, ground := Ground.phase }, { on := 3, ground := Ground.phase }, { on := 4, ground := Ground.phase }, { on := 5, ground := Ground.phase }, { on := 6, ground := Ground.phase }], guard := none }) (v := ?_) rfl (by kernel_rfl) (by kernel_rfl) (by kernel_rfl) (fun _ _ _ h => h) (Or.inl ⟨by rfl, ?_⟩) (by assumption) ?_
            rotate_left
            · intro w hSw; (try dsimp only at hSw); go_simp
              try with_reducible rfl
            simp only [Act.put, List.setIfInBounds_toArray, List.set_cons_zero, List.set_cons_succ]
            refine wpAnyH_ready (rs := [8]) (by kernel_rfl) (by simp) ?_
            refine AllReadyH.cons rfl (fun K' hK' => ?_) AllReadyH.nil
            go_simp
            refine hK'.out _ _ (f4) (fun hHeld => ?_)
            clear hK' K'
            refine wpAnyH_done (by kernel_rfl) ?_ _
            clear hHeld
            go_wp2
            go_roundw
            case rel => exact ⟨x + 1, by omega, by go_num, F5, _, F6, F7⟩
            case measure => simp [intOf]; omega
          · have k1 : decide (x < m) = false := by simpa using cx
            have k1' : decide ((x : Int) < (m : Int)) = false := decide_eq_false (by omega)
            obtain rfl : x = m := by omega
            obtain ⟨r1, B1, sDw⟩ := KO.out wr hKw
            have hT1 : ∀ i, i < x → T i < 4294967296 := fun i hi => ((hT.out i hi).1 hi).1
            have DX := dx_des (N : Int) hT1
            have PT : ptsL x T = setsL x 32 (relP xss ps) := ptsL_sets (Nat.le_refl 32) fun k hk i => ((hT.out k hk).1 hk).2 i
            have mem0 : ∀ xs : List Int, 0 < xs.length → xs.getD 0 0 ∈ xs := fun xs h => by rw [List.getD_eq_getElem?_getD, List.getElem?_eq_getElem h]; exact List.getElem_mem _
            have NE : anyE (setsL x 32 (relP xss ps)) = false := anyE_false fun i hi => by
              rw [setsL_len] at hi
              rw [setsL_at x 32 _ i hi]
              intro e
              have hi2 := HIN.out i (by omega)
              obtain ⟨t, ht, tl⟩ := hi2.2.2.2 0 hi2.2.1
              have : (t : Int) ∈ fls 32 (relP xss ps i) := (fls_mem 32 _ _).2 ⟨t, tl, decide_eq_true (by
                unfold tms
                rw [List.mem_map]
                exact ⟨(xss.getD i []).getD 0 0, mem0 _ hi2.2.1, ht⟩), rfl⟩
              rw [e] at this
              cases this
            rw [PT] at DX
            unfold dxN dxL dxC at DX
            rw [NE, setsL_len] at DX
            simp only [Bool.false_eq_true, if_false, if_neg (show ¬ 128 < x by omega)] at DX
            have HDS := ides (N : Int) x g T (by omega) wr hU.out hT1 (by omega) (TB.out.below B1 hpos)
            rw [DX.1, DX.2.1, DX.2.2] at HDS
            rw [hm] at V0
            obtain ⟨ql, hql⟩ : ∃ q, sortL (setsL x 32 (relP xss ps)) = q := ⟨_, rfl⟩
            rw [hql] at HDS V0
            have V := V0
            have HDS := Lib.hid HDS
            have r1 := Lib.hid r1
            have B1 := Lib.hid B1
            have zsz : Hid (B + 1 < wr.heap.size) := (Array.getElem?_eq_some_iff.1 r1.out).1
            clear DX hql PT NE hT1 hT hU
            go_wp2_with fail
            refine HDS.out.mono ?_
            rintro e w9 ⟨z, rfl, hL, hO⟩
            have zz := zsz.out
            have RX : Hid (w9.heap[B + 1]? = some (.cells #[.int .i64 0, .slice none 0 0] 30 (0, 0))) := (hO.block (B + 1) (by omega) (by omega)).trans r1.out
            have BX : Hid (Below B W w9) := ⟨hO.os.trans B1.out.os, hO.tape.trans B1.out.tape, hO.output.trans B1.out.output, Nat.le_trans B1.out.size hO.size, fun k hk => (hO.block k (by omega) (by omega)).trans (B1.out.block k hk)⟩
            obtain ⟨ay, ly, cy, rfl⟩ : ∃ a l c, z = .slice a l c := by obtain ⟨a, c, e, -⟩ := hL.at.shape; exact ⟨a, _, c, e⟩
            have LX := Lib.hid hL
            have sW : W.heap.size ≤ wr.heap.size := B1.out.size
            clear hL hO e0 e1
            have f0 := frozen_of_row w9 (B + 1) 0 _ _ RX.out
            have f1 := frozen_of_row w9 (B + 1) 1 _ _ RX.out
            have d0 : w9.cell? ⟨B + 1, 0, none⟩ = some (.int .i64 0) := by rw [cell_of_row w9 (B + 1) 0 _ _ _ RX.out]; rfl
            have d1 : w9.cell? ⟨B + 1, 1, none⟩ = some (.slice none 0 0) := by rw [cell_of_row w9 (B + 1) 1 _ _ _ RX.out]; rfl
            go_wp2
            have R9 := set2_row w9 (B + 1) _ _ (.int .i64 (N : Int)) (.slice ay ly cy) _ RX.out
            have B9 := (BX.out.setCell (p := ⟨B + 1, 0, none⟩) (by simp only; omega) (.int .i64 (N : Int))).setCell (p := ⟨B + 1, 1, none⟩) (by simp only; omega) (.slice ay ly cy)
            have L9 := RowsL.off2 LX.out (show B + 1 < wr.heap.size by omega) (.int .i64 (N : Int)) (.slice ay ly cy)
            have hld := run_loadVar_row (P := Tryd.prog) _ _ 30 30 #[.int .i64 (N : Int), .slice ay ly cy] (0, 0) _ R9 Tryd.underlying30 rfl Tryd.infoDes
            refine bodyPost_ret (v := .tuple #[.agg #[.int .i64 (N : Int), .slice ay ly cy], .int .i64 0]) ?_ rfl ⟨_, by rw [V.out.1, V.out.2.2], ?_, by rw [HB.out]; exact B9⟩
            · rw [results_cell_tmp rfl]
              simp [asAddr, Result.andThen, hld]
            · rw [V.out.2.1]; exact L9.mono (by omega) (by simp [World.setCell]) (Nat.le_refl _)
      · have V := Lib.hid (rel_no6 hp hq (by rw [hlp]; exact hl))
        have q1 : ((lp : Int) != (N : Int)) = true := by simp; omega
        have q2 : (lp != N) = true := by simp; omega
        clear hp hv A1 A2 b1 b12 b2 K R2 ht hu D hq hl
        go_enter Tryd.func38, Tryd.ntmps38
        go_wp2_with fail
        try rw [hw1]
        try rw [hw2]
        refine HO.out.mono ?_
        rintro e w3 ⟨z, rfl, ⟨-, hz⟩, b3⟩
        obtain ⟨g, S, rfl, hg, hU, hS⟩ := hz rfl
        rw [hm] at hU hS ⊢
        obtain ⟨w4, Dk, hw4, hD, hgD, hBD, B4, N4, R4, U4, z4⟩ := MID.out g w3 (by have := b3.size; omega) hU.lt hg b3 S hU
        have Hw4 := Lib.hid hw4
        have RX4 := Lib.hid R4
        have BX4 := Lib.hid B4
        have NX4 := Lib.hid N4
        have sB : B ≤ w4.heap.size := by omega
        have sB2 : B + 1 < w4.heap.size := by omega
        have sD : Dk < w4.heap.size := by omega
        clear b3 c0 c1 hw1 hw2 hw4 hU hS N4 R4 B4 U4 z4
        go_upto_region 2 with fail
        rw [Hw4.out]
        clear Hw4
        go_wp2_with fail
        refine (HP.out w4 BX4.out).mono ?_
        rintro e w5 ⟨rfl, b5⟩
        have N5 : w5.heap[Dk]? = some (.cells #[.int .i64 (N : Int), .slice (some ⟨g, 0, none⟩) m m] 61 (0, 0)) := (b5.block Dk sD).trans NX4.out
        have e0 : w5.cell? ⟨Dk, 0, none⟩ = some (.int .i64 (N : Int)) := by rw [cell_of_row w5 Dk 0 _ _ _ N5]; rfl
        have RX : Hid (w5.heap[B + 1]? = some (.cells #[.int .i64 0, .slice none 0 0] 30 (0, 0))) := (b5.block (B + 1) sB2).trans RX4.out
        have BX : Hid (Below B W w5) := BX4.out.trans (b5.mono sB)
        have s5 : B + 1 < w5.heap.size := by have := b5.size; omega
        clear b5 N5
        have f0 := frozen_of_row w5 (B + 1) 0 _ _ RX.out
        have f1 := frozen_of_row w5 (B + 1) 1 _ _ RX.out
        have d0 : w5.cell? ⟨B + 1, 0, none⟩ = some (.int .i64 0) := by rw [cell_of_row w5 (B + 1) 0 _ _ _ RX.out]; rfl
        have d1 : w5.cell? ⟨B + 1, 1, none⟩ = some (.slice none 0 0) := by rw [cell_of_row w5 (B + 1) 1 _ _ _ RX.out]; rfl
        go_wp2
        have R9 := set2_row w5 (B + 1) _ _ (.int .i64 0) (.slice none 0 0) _ RX.out
        have B9 := (BX.out.setCell (p := ⟨B + 1, 0, none⟩) (by simp only; omega) (.int .i64 0)).setCell (p := ⟨B + 1, 1, none⟩) (by simp only; omega) (.slice none 0 0)
        have hld := run_loadVar_row (P := Tryd.prog) _ _ 30 30 #[.int .i64 0, .slice none 0 0] (0, 0) _ R9 Tryd.underlying30 rfl Tryd.infoDes
        refine bodyPost_ret (v := .tuple #[.agg #[.int .i64 0, .slice none 0 0], .int .i64 6]) ?_ rfl ⟨_, by rw [V.out.1, V.out.2.2], ?_, by rw [HB.out]; exact B9⟩
        · rw [results_cell_tmp rfl]
          simp [asAddr, Result.andThen, hld]
        · rw [V.out.2.1]; exact RowsL.nil _ _ _ (Nat.le_refl _)
end
end Go.Proofs.YtpckbhelnoeifaaDoor
