/- RemoveLine: the model's and the program's. -/
import Derived.Test.YtdhlnagkhkcoiaaGreatDoorPla
import Derived.Test.YtdhlnagkhkcoiaaGreatDoorDpi
import Derived.Test.YtdhlnagkhkcoiaaGreatDoorDsm
namespace Go.Proofs.YtdhlnagkhkcoiaaGreatDoor
open Go.RowKit Go.Shelf
set_option linter.unusedVariables false
set_option linter.unusedSimpArgs false

noncomputable def RemoveLine_N (n : Int) (xss : List (List Int)) (idx : Int) : Int := if askC n xss idx = 0 then (if ProjectiveOrder_0 n xss = 0 then 0 else dpN n xss idx (outY n xss idx)) else 0
noncomputable def RemoveLine_L (n : Int) (xss : List (List Int)) (idx : Int) : List (List Int) := if askC n xss idx = 0 then (if ProjectiveOrder_0 n xss = 0 then [] else dpL n xss idx (outY n xss idx)) else []
noncomputable def RemoveLine_C (n : Int) (xss : List (List Int)) (idx : Int) : Int := if askC n xss idx = 0 then (if ProjectiveOrder_0 n xss = 0 then 6 else dpC n xss idx (outY n xss idx)) else askC n xss idx
theorem rml_ask {n : Int} {xss : List (List Int)} {idx : Int} (h : ¬ askC n xss idx = 0) : RemoveLine_N n xss idx = 0 ∧ RemoveLine_L n xss idx = [] ∧ RemoveLine_C n xss idx = askC n xss idx := by
  unfold RemoveLine_N RemoveLine_L RemoveLine_C; rw [if_neg h, if_neg h, if_neg h]; exact ⟨rfl, rfl, rfl⟩
theorem rml_state {n : Int} {xss : List (List Int)} {idx : Int} (h : askC n xss idx = 0) (h2 : ProjectiveOrder_0 n xss = 0) : RemoveLine_N n xss idx = 0 ∧ RemoveLine_L n xss idx = [] ∧ RemoveLine_C n xss idx = 6 := by
  unfold RemoveLine_N RemoveLine_L RemoveLine_C; rw [if_pos h, if_pos h, if_pos h, if_pos h2, if_pos h2, if_pos h2]; exact ⟨rfl, rfl, rfl⟩
theorem rml_ok {n : Int} {xss : List (List Int)} {idx : Int} (h : askC n xss idx = 0) (h2 : ¬ ProjectiveOrder_0 n xss = 0) : RemoveLine_N n xss idx = dpN n xss idx (outY n xss idx) ∧ RemoveLine_L n xss idx = dpL n xss idx (outY n xss idx) ∧ RemoveLine_C n xss idx = dpC n xss idx (outY n xss idx) := by
  unfold RemoveLine_N RemoveLine_L RemoveLine_C; rw [if_pos h, if_pos h, if_pos h, if_neg h2, if_neg h2, if_neg h2]; exact ⟨rfl, rfl, rfl⟩
theorem totRemoveLine (n : Int) (xss : List (List Int)) (idx : Int) : tot (RemoveLine_L n xss idx) ≤ 5000 := by
  unfold RemoveLine_L
  split
  · split
    · simp [tot]
    · exact totResidualDesign n xss idx
  · simp [tot]

set_option maxRecDepth 100000 in
set_option maxHeartbeats 4000000 in
theorem sRemoveLine (n : Int) (xss : List (List Int)) (idx : Int) (w : World) (v : Value) (hv : RowsAt w v xss) :
    Calls Tryz.prog 12 #[.agg #[.int .i64 n, v], .int .i64 idx] w fun e w' => ∃ z, e = .returned (.tuple #[.agg #[.int .i64 (RemoveLine_N n xss idx), z], .int .i64 (RemoveLine_C n xss idx)]) ∧ RowsL w' w.heap.size w'.heap.size z (RemoveLine_L n xss idx) ∧ Below w.heap.size w w' := by
  obtain ⟨va, cap, rfl, -⟩ := hv.shape
  obtain ⟨m, hm⟩ : ∃ m, xss.length = m := ⟨_, rfl⟩
  have hml := hv.1
  rw [hm] at hv hml ⊢
  obtain ⟨B, hB⟩ : ∃ B, w.heap.size = B := ⟨_, rfl⟩
  obtain ⟨w1, hw1⟩ : ∃ w1, w.alloc (.cells #[.int .i64 n, .slice va m cap] 26) = w1 := ⟨_, rfl⟩
  have z1 : w1.heap.size = B + 1 := by rw [← hw1, World.size_alloc, hB]
  have b1 : Below B w w1 := by rw [← hw1]; exact (Below.refl _ _).alloc (by omega) _
  have A1 : w1.heap[B]? = some (.cells #[.int .i64 n, .slice va m cap] 26 (0, 0)) := by rw [← hw1, ← hB]; exact heap_alloc_new _ _
  obtain ⟨w2, hw2⟩ : ∃ w2, w1.alloc (.cells #[.int .i64 0, .slice none 0 0] 26) = w2 := ⟨_, rfl⟩
  have z2 : w2.heap.size = B + 2 := by rw [← hw2, World.size_alloc, z1]
  have b12 : Below (B + 1) w1 w2 := by rw [← hw2]; exact (Below.refl _ _).alloc (Nat.le_of_eq z1.symm) _
  have b2 : Below B w w2 := b1.trans (b12.mono (Nat.le_succ B))
  have R2 : w2.heap[B + 1]? = some (.cells #[.int .i64 0, .slice none 0 0] 26 (0, 0)) := by rw [← hw2, ← z1]; exact heap_alloc_new _ _
  have A2 := (b12.block B (Nat.lt_succ_self B)).trans A1
  have HB := Lib.hid hB
  -- what stays
  obtain ⟨K, hK⟩ : ∃ K : World → Prop, K = fun W => Below (B + 2) w2 W := ⟨_, rfl⟩
  have K2 : Hid (K w2) := by rw [hK]; exact Below.refl _ _
  have KN : Hid (∀ W W', K W → Below W.heap.size W W' → K W') := fun W W' h bb => by
    rw [hK] at h ⊢
    exact h.trans (bb.mono (by have := h.size; omega))
  have KO : Hid (∀ W, K W → W.cell? ⟨B, 0, none⟩ = some (.int .i64 n) ∧ W.cell? ⟨B, 1, none⟩ = some (.slice va m cap) ∧ W.heap[B + 1]? = some (.cells #[.int .i64 0, .slice none 0 0] 26 (0, 0)) ∧ Below B w W ∧ B + 2 ≤ W.heap.size) := fun W h => by
    rw [hK] at h
    obtain ⟨q0, q1⟩ := cells2A W B _ _ _ ((h.block B (by omega)).trans A2)
    exact ⟨q0, q1, (h.block (B + 1) (by omega)).trans R2, b2.trans (h.mono (by omega)), by have := h.size; omega⟩
  have KV : Hid (∀ W, K W → RowsAt W (.slice va m cap) xss) := fun W h => by
    rw [hK] at h
    have bb := b2.trans (h.mono (by omega))
    exact hv.below bb (by omega)
  have EN : Hid (∀ (W : World) (cd : Int), K W → RemoveLine_N n xss idx = 0 ∧ RemoveLine_L n xss idx = [] ∧ RemoveLine_C n xss idx = cd → ∀ (tmps : Array Value), tmps.getD 4 undef = .pointer (some ⟨B + 1, 0, none⟩) → tmps.getD 5 undef = .int .i64 cd →
      bodyPost Tryz.prog Tryz.f12 (fun e w' => ∃ z, e = .returned (.tuple #[.agg #[.int .i64 (RemoveLine_N n xss idx), z], .int .i64 (RemoveLine_C n xss idx)]) ∧ RowsL w' w.heap.size w'.heap.size z (RemoveLine_L n xss idx) ∧ Below w.heap.size w w') Exit.ret { tmps := tmps, defers := [] } ((W.setCell ⟨B + 1, 0, none⟩ (.int .i64 0)).setCell ⟨B + 1, 1, none⟩ (.slice none 0 0))) := fun W cd hk hf tmps t2 t3 => by
    obtain ⟨-, -, q2, q3, -⟩ := KO.out W hk
    refine endsD (fn := Tryz.f12) (i := 4) (j := 5) rfl W (B + 1) _ _ q2 _ _ _ _ ⟨.slice none 0 0, by rw [hf.1, hf.2.2], ?_, ?_⟩ tmps t2 t3
    · rw [hf.2.1]; exact RowsL.nil _ _ _ (Nat.le_refl _)
    · rw [HB.out]
      exact (q3.setCell (p := ⟨B + 1, 0, none⟩) (Nat.le_succ B) _).setCell (p := ⟨B + 1, 1, none⟩) (Nat.le_succ B) _
  have EY : Hid (∀ (W W' : World) (ay : Option Addr) (ly cy : Nat), K W → K W' → askC n xss idx = 0 → ¬ ProjectiveOrder_0 n xss = 0 → RowsL W' W.heap.size W'.heap.size (.slice ay ly cy) (dpL n xss idx (outY n xss idx)) → ∀ (tmps : Array Value), tmps.getD 4 undef = .pointer (some ⟨B + 1, 0, none⟩) → tmps.getD 5 undef = .int .i64 (dpC n xss idx (outY n xss idx)) →
      bodyPost Tryz.prog Tryz.f12 (fun e w' => ∃ z, e = .returned (.tuple #[.agg #[.int .i64 (RemoveLine_N n xss idx), z], .int .i64 (RemoveLine_C n xss idx)]) ∧ RowsL w' w.heap.size w'.heap.size z (RemoveLine_L n xss idx) ∧ Below w.heap.size w w') Exit.ret { tmps := tmps, defers := [] } ((W'.setCell ⟨B + 1, 0, none⟩ (.int .i64 (dpN n xss idx (outY n xss idx)))).setCell ⟨B + 1, 1, none⟩ (.slice ay ly cy))) := fun W W' ay ly cy hk hk' ha hp hL tmps t2 t3 => by
    obtain ⟨-, -, -, -, s⟩ := KO.out W hk
    obtain ⟨-, -, q2, q3, -⟩ := KO.out W' hk'
    obtain ⟨v1, v2, v3⟩ := rml_ok ha hp
    refine endsD (fn := Tryz.f12) (i := 4) (j := 5) rfl W' (B + 1) _ _ q2 _ _ _ _ ⟨.slice ay ly cy, by rw [v1, v3], ?_, ?_⟩ tmps t2 t3
    · rw [v2]
      exact (RowsL.off2 hL (show B + 1 < W.heap.size by omega) _ _).mono (by have := HB.out; omega) (by simp [World.setCell]) (Nat.le_refl _)
    · rw [HB.out]
      exact (q3.setCell (p := ⟨B + 1, 0, none⟩) (Nat.le_succ B) _).setCell (p := ⟨B + 1, 1, none⟩) (Nat.le_succ B) _
  have KD : Hid (∀ W d, K W → K (W.drewN d)) := fun W d h => KN.out W _ h (below_drewN (Below.refl _ _) d)
  have HO := Lib.hid (fun W (h : K W) => sOk n xss W _ B (KO.out W h).1 (KO.out W h).2.1 (KV.out W h))
  have HP := Lib.hid (fun W (h : K W) => s12Projective n xss W _ B (KO.out W h).1 (KO.out W h).2.1 (KV.out W h))
  have HR := Lib.hid (fun W (h : K W) => sResidualDesign n xss idx W _ (KV.out W h))
  have w9 := IntWalk.i64_in ((m : Int) - 1) (by omega)
  have HI := Lib.hid (fun W => in_any idx 0 ((m : Int) - 1) W)
  obtain ⟨c0, c1, -⟩ := KO.out _ K2.out
  clear hv hK A1 b1 A2 R2 b12 b2
  cases hp : desB n xss with
  | false =>
    have V := Lib.hid (ask_no idx hp)
    have VV : Hid (RemoveLine_N n xss idx = 0 ∧ RemoveLine_L n xss idx = [] ∧ RemoveLine_C n xss idx = 1) := by
      have := rml_ask (n := n) (xss := xss) (idx := idx) (by rw [V.out]; decide)
      rw [V.out] at this; exact this
    rw [hp] at HO
    clear hp
    go_enter Tryz.func12, Tryz.ntmps12
    go_wp2_with fail
    try rw [hw1]
    try rw [z1]
    try rw [hw2]
    try rw [hB]
    refine (HO.out _ K2.out).mono ?_
    rintro e w3 ⟨rfl, d, rfl⟩
    have K3 := Lib.hid (KD.out _ d K2.out)
    obtain ⟨c0', c1', r3, -, -⟩ := KO.out _ K3.out
    obtain ⟨d0, d1, f0, f1⟩ := cells2 _ (B + 1) _ _ _ r3
    clear c0 c1 r3
    go_wp2
    exact EN.out _ 1 K3.out VV.out _ rfl rfl
  | true =>
    rw [hp] at HO
    have HPp := Lib.hid hp
    clear hp
    by_cases qi : 0 ≤ idx ∧ idx ≤ (m : Int) - 1
    · have TW : inIdx idx xss.length = true := decide_eq_true (by omega)
      have V := Lib.hid (ask_ok HPp.out TW)
      rw [decide_eq_true qi] at HI
      obtain ⟨pr, hpr⟩ : ∃ p, ProjectiveOrder_0 n xss = p := ⟨_, rfl⟩
      simp only [hpr] at HP
      have VS : Hid (pr = 0 → RemoveLine_N n xss idx = 0 ∧ RemoveLine_L n xss idx = [] ∧ RemoveLine_C n xss idx = 6) := fun h => rml_state V.out (by rw [hpr, h])
      have PN : Hid (¬ pr = 0 → ¬ ProjectiveOrder_0 n xss = 0) := fun h => by rw [hpr]; exact h
      clear qi TW hpr
      go_enter Tryz.func12, Tryz.ntmps12
      go_wp2_with fail
      try rw [hw1]
      try rw [z1]
      try rw [hw2]
      try rw [hB]
      refine (HO.out _ K2.out).mono ?_
      rintro e w3 ⟨rfl, d, rfl⟩
      have K3 := Lib.hid (KD.out _ d K2.out)
      obtain ⟨c0', c1', -⟩ := KO.out _ K3.out
      clear c0 c1
      go_wp2_with fail
      refine (HI.out _).mono ?_
      rintro e w5 ⟨rfl, rfl⟩
      go_wp2_with fail
      refine (HP.out _ K3.out).mono ?_
      rintro e w5 ⟨rfl, b5⟩
      have K5 := Lib.hid (KN.out _ _ K3.out b5)
      obtain ⟨e0, e1, r5, -, -⟩ := KO.out _ K5.out
      obtain ⟨d0, d1, f0, f1⟩ := cells2 _ (B + 1) _ _ _ r5
      clear b5 r5 c0' c1'
      by_cases q0 : pr = 0
      · have VS0 := Lib.hid (VS.out q0)
        clear VS PN
        subst q0
        go_wp2
        exact EN.out _ 6 K5.out VS0.out _ rfl rfl
      · have t1 : (pr == 0) = false := by simpa using q0
        have Q0 := Lib.hid q0
        clear q0 d0 d1 f0 f1
        go_wp2_with fail
        refine (HR.out _ K5.out).mono ?_
        rintro e w7 ⟨z, rfl, hL, b7⟩
        obtain ⟨ay, ly, cy, rfl⟩ : ∃ a l c, z = .slice a l c := by obtain ⟨a, c, e, -⟩ := hL.at.shape; exact ⟨a, _, c, e⟩
        have K7 := Lib.hid (KN.out _ _ K5.out b7)
        have LX := Lib.hid hL
        obtain ⟨-, -, r7, -, -⟩ := KO.out _ K7.out
        obtain ⟨d0, d1, f0, f1⟩ := cells2 _ (B + 1) _ _ _ r7
        clear hL b7 r7
        go_wp2
        exact EY.out _ _ ay ly cy K5.out K7.out V.out (PN.out Q0.out) LX.out _ rfl rfl
    · have TW : inIdx idx xss.length = false := decide_eq_false (by omega)
      have V := Lib.hid (ask_range HPp.out TW)
      have VV : Hid (RemoveLine_N n xss idx = 0 ∧ RemoveLine_L n xss idx = [] ∧ RemoveLine_C n xss idx = 2) := by
        have := rml_ask (n := n) (xss := xss) (idx := idx) (by rw [V.out]; decide)
        rw [V.out] at this; exact this
      rw [decide_eq_false qi] at HI
      clear qi TW
      go_enter Tryz.func12, Tryz.ntmps12
      go_wp2_with fail
      try rw [hw1]
      try rw [z1]
      try rw [hw2]
      try rw [hB]
      refine (HO.out _ K2.out).mono ?_
      rintro e w3 ⟨rfl, d, rfl⟩
      have K3 := Lib.hid (KD.out _ d K2.out)
      obtain ⟨c0', c1', r3, -, -⟩ := KO.out _ K3.out
      obtain ⟨d0, d1, f0, f1⟩ := cells2 _ (B + 1) _ _ _ r3
      clear c0 c1 r3
      go_wp2_with fail
      refine (HI.out _).mono ?_
      rintro e w5 ⟨rfl, rfl⟩
      go_wp2
      exact EN.out _ 2 K3.out VV.out _ rfl rfl

set_option maxRecDepth 100000 in
set_option maxHeartbeats 4000000 in
theorem iRemoveLine (n : Int) (xss : List (List Int)) (idx : Int) (hx : xss.length ≤ 1048576) (w : World) (v : Value) (hv : RowsAt w v xss) (ht : Tab w) :
    Calls Tryz.prog 13 #[.agg #[.int .i64 n, v], .int .i64 idx] w fun e w' => ∃ z, e = .returned (.tuple #[.agg #[.int .i64 (RemoveLine_N n xss idx), z], .int .i64 (RemoveLine_C n xss idx)]) ∧ RowsL w' w.heap.size w'.heap.size z (RemoveLine_L n xss idx) ∧ Below w.heap.size w w' := by
  obtain ⟨va, cap, rfl, -⟩ := hv.shape
  obtain ⟨m, hm⟩ : ∃ m, xss.length = m := ⟨_, rfl⟩
  rw [hm] at hv ⊢
  obtain ⟨B, hB⟩ : ∃ B, w.heap.size = B := ⟨_, rfl⟩
  have hpos : 0 < B := by rw [← hB]; exact ht.pos
  obtain ⟨w1, hw1⟩ : ∃ w1, w.alloc (.cells #[.int .i64 n, .slice va m cap] 26) = w1 := ⟨_, rfl⟩
  have z1 : w1.heap.size = B + 1 := by rw [← hw1, World.size_alloc, hB]
  have b1 : Below B w w1 := by rw [← hw1]; exact (Below.refl _ _).alloc (by omega) _
  have A1 : w1.heap[B]? = some (.cells #[.int .i64 n, .slice va m cap] 26 (0, 0)) := by rw [← hw1, ← hB]; exact heap_alloc_new _ _
  obtain ⟨w2, hw2⟩ : ∃ w2, w1.alloc (.cells #[.int .i64 0, .slice none 0 0] 26) = w2 := ⟨_, rfl⟩
  have z2 : w2.heap.size = B + 2 := by rw [← hw2, World.size_alloc, z1]
  have b12 : Below (B + 1) w1 w2 := by rw [← hw2]; exact (Below.refl _ _).alloc (Nat.le_of_eq z1.symm) _
  have b2 : Below B w w2 := b1.trans (b12.mono (Nat.le_succ B))
  have R2 : w2.heap[B + 1]? = some (.cells #[.int .i64 0, .slice none 0 0] 26 (0, 0)) := by rw [← hw2, ← z1]; exact heap_alloc_new _ _
  have A2 := (b12.block B (Nat.lt_succ_self B)).trans A1
  have HB := Lib.hid hB
  -- what stays
  obtain ⟨K, hK⟩ : ∃ K : World → Prop, K = fun W => Below (B + 2) w2 W := ⟨_, rfl⟩
  have K2 : Hid (K w2) := by rw [hK]; exact Below.refl _ _
  have KN : Hid (∀ W W', K W → Below W.heap.size W W' → K W') := fun W W' h bb => by
    rw [hK] at h ⊢
    exact h.trans (bb.mono (by have := h.size; omega))
  have KO : Hid (∀ W, K W → W.cell? ⟨B, 0, none⟩ = some (.int .i64 n) ∧ W.cell? ⟨B, 1, none⟩ = some (.slice va m cap) ∧ W.heap[B + 1]? = some (.cells #[.int .i64 0, .slice none 0 0] 26 (0, 0)) ∧ Below B w W ∧ B + 2 ≤ W.heap.size) := fun W h => by
    rw [hK] at h
    obtain ⟨q0, q1⟩ := cells2A W B _ _ _ ((h.block B (by omega)).trans A2)
    exact ⟨q0, q1, (h.block (B + 1) (by omega)).trans R2, b2.trans (h.mono (by omega)), by have := h.size; omega⟩
  have KV : Hid (∀ W, K W → RowsAt W (.slice va m cap) xss ∧ Tab W) := fun W h => by
    rw [hK] at h
    have bb := b2.trans (h.mono (by omega))
    exact ⟨hv.below bb (by omega), ht.below bb hpos⟩
  have EN : Hid (∀ (W : World) (cd : Int), K W → RemoveLine_N n xss idx = 0 ∧ RemoveLine_L n xss idx = [] ∧ RemoveLine_C n xss idx = cd → ∀ (tmps : Array Value), tmps.getD 4 undef = .pointer (some ⟨B + 1, 0, none⟩) → tmps.getD 5 undef = .int .i64 cd →
      bodyPost Tryz.prog Tryz.f13 (fun e w' => ∃ z, e = .returned (.tuple #[.agg #[.int .i64 (RemoveLine_N n xss idx), z], .int .i64 (RemoveLine_C n xss idx)]) ∧ RowsL w' w.heap.size w'.heap.size z (RemoveLine_L n xss idx) ∧ Below w.heap.size w w') Exit.ret { tmps := tmps, defers := [] } ((W.setCell ⟨B + 1, 0, none⟩ (.int .i64 0)).setCell ⟨B + 1, 1, none⟩ (.slice none 0 0))) := fun W cd hk hf tmps t2 t3 => by
    obtain ⟨-, -, q2, q3, -⟩ := KO.out W hk
    refine endsD (fn := Tryz.f13) (i := 4) (j := 5) rfl W (B + 1) _ _ q2 _ _ _ _ ⟨.slice none 0 0, by rw [hf.1, hf.2.2], ?_, ?_⟩ tmps t2 t3
    · rw [hf.2.1]; exact RowsL.nil _ _ _ (Nat.le_refl _)
    · rw [HB.out]
      exact (q3.setCell (p := ⟨B + 1, 0, none⟩) (Nat.le_succ B) _).setCell (p := ⟨B + 1, 1, none⟩) (Nat.le_succ B) _
  have EY : Hid (∀ (W W' : World) (ay : Option Addr) (ly cy : Nat), K W → K W' → askC n xss idx = 0 → ¬ ProjectiveOrder_0 n xss = 0 → RowsL W' W.heap.size W'.heap.size (.slice ay ly cy) (dpL n xss idx (outY n xss idx)) → ∀ (tmps : Array Value), tmps.getD 4 undef = .pointer (some ⟨B + 1, 0, none⟩) → tmps.getD 5 undef = .int .i64 (dpC n xss idx (outY n xss idx)) →
      bodyPost Tryz.prog Tryz.f13 (fun e w' => ∃ z, e = .returned (.tuple #[.agg #[.int .i64 (RemoveLine_N n xss idx), z], .int .i64 (RemoveLine_C n xss idx)]) ∧ RowsL w' w.heap.size w'.heap.size z (RemoveLine_L n xss idx) ∧ Below w.heap.size w w') Exit.ret { tmps := tmps, defers := [] } ((W'.setCell ⟨B + 1, 0, none⟩ (.int .i64 (dpN n xss idx (outY n xss idx)))).setCell ⟨B + 1, 1, none⟩ (.slice ay ly cy))) := fun W W' ay ly cy hk hk' ha hp hL tmps t2 t3 => by
    obtain ⟨-, -, -, -, s⟩ := KO.out W hk
    obtain ⟨-, -, q2, q3, -⟩ := KO.out W' hk'
    obtain ⟨v1, v2, v3⟩ := rml_ok ha hp
    refine endsD (fn := Tryz.f13) (i := 4) (j := 5) rfl W' (B + 1) _ _ q2 _ _ _ _ ⟨.slice ay ly cy, by rw [v1, v3], ?_, ?_⟩ tmps t2 t3
    · rw [v2]
      exact (RowsL.off2 hL (show B + 1 < W.heap.size by omega) _ _).mono (by have := HB.out; omega) (by simp [World.setCell]) (Nat.le_refl _)
    · rw [HB.out]
      exact (q3.setCell (p := ⟨B + 1, 0, none⟩) (Nat.le_succ B) _).setCell (p := ⟨B + 1, 1, none⟩) (Nat.le_succ B) _
  have HO := Lib.hid (fun W (h : K W) => iblockOf n xss idx hx W _ (KV.out W h).1 (KV.out W h).2)
  have HP := Lib.hid (fun W (h : K W) => iProjectiveOrder n xss hx W _ (KV.out W h).1 (KV.out W h).2)
  have HR := Lib.hid (fun W (h : K W) => iResidualDesign n xss idx hx W _ (KV.out W h).1 (KV.out W h).2)
  have KA : Hid (∀ W cs T, K W → K (W.alloc (.cells cs T))) := fun W cs T h => KN.out W _ h ((Below.refl _ _).alloc (Nat.le_refl _) _)
  obtain ⟨c0, c1, -⟩ := KO.out _ K2.out
  have VA := Lib.hid (fun h => rml_ask (n := n) (xss := xss) (idx := idx) h)
  have NOI : Hid (¬ askC n xss idx = 0 → ¬ (desB n xss = true ∧ inIdx idx xss.length = true)) := fun h ⟨a, b⟩ => h (ask_ok a b)
  have YI : Hid (askC n xss idx = 0 → desB n xss = true ∧ inIdx idx xss.length = true) := fun h => by
    unfold askC at h
    cases a : desB n xss with
    | false => rw [a] at h; simp at h
    | true =>
      cases b : inIdx idx xss.length with
      | false => rw [a, b] at h; simp at h
      | true => exact ⟨rfl, rfl⟩
  obtain ⟨cd, hcd⟩ : ∃ c, askC n xss idx = c := ⟨_, rfl⟩
  simp only [hcd] at HO VA NOI YI EY
  obtain ⟨pr, hpr⟩ : ∃ p, ProjectiveOrder_0 n xss = p := ⟨_, rfl⟩
  simp only [hpr] at HP EY
  have VS : Hid (cd = 0 → pr = 0 → RemoveLine_N n xss idx = 0 ∧ RemoveLine_L n xss idx = [] ∧ RemoveLine_C n xss idx = 6) := fun h1 h => rml_state (by rw [hcd, h1]) (by rw [hpr, h])
  have HM := Lib.hid hm
  clear hv hK A1 b1 A2 R2 b12 b2 ht hcd hpr hm
  by_cases qc : cd = 0
  · have YI0 := Lib.hid (YI.out qc)
    have VS0 := Lib.hid (VS.out qc)
    have AC := Lib.hid qc
    clear YI VS VA NOI
    subst qc
    go_enter Tryz.func13, Tryz.ntmps13
    go_wp2_with fail
    try rw [hw1]
    try rw [z1]
    try rw [hw2]
    refine (HO.out _ K2.out).mono ?_
    rintro e w3 ⟨zi, s, rfl, ⟨-, hz⟩, b3⟩
    obtain ⟨g, S, rfl, -, -, -, -⟩ := hz YI0.out
    rw [HM.out]
    have K3 := Lib.hid (KN.out _ _ K2.out b3)
    obtain ⟨w4, hw4⟩ : ∃ w4, w3.alloc (.cells #[.int .i64 n, .slice (some ⟨g, 0, none⟩) m m] 45) = w4 := ⟨_, rfl⟩
    have K4 : Hid (K w4) := by rw [← hw4]; exact KA.out _ _ _ K3.out
    obtain ⟨c0', c1', -⟩ := KO.out _ K4.out
    clear c0 c1 b3 hz
    go_wp2_with fail
    try rw [hw4]
    refine (HP.out _ K4.out).mono ?_
    rintro e w5 ⟨rfl, b5⟩
    have K5 := Lib.hid (KN.out _ _ K4.out b5)
    obtain ⟨e0, e1, r5, -, -⟩ := KO.out _ K5.out
    obtain ⟨d0, d1, f0, f1⟩ := cells2 _ (B + 1) _ _ _ r5
    clear b5 r5 c0' c1'
    by_cases q0 : pr = 0
    · have VS1 := Lib.hid (VS0.out q0)
      clear VS0 EY
      subst q0
      go_wp2
      exact EN.out _ 6 K5.out VS1.out _ rfl rfl
    · have t1 : (pr == 0) = false := by simpa using q0
      have Q0 := Lib.hid q0
      clear q0 d0 d1 f0 f1
      go_wp2_with fail
      refine (HR.out _ K5.out).mono ?_
      rintro e w7 ⟨z, rfl, hL, b7⟩
      obtain ⟨ay, ly, cy, rfl⟩ : ∃ a l c, z = .slice a l c := by obtain ⟨a, c, e, -⟩ := hL.at.shape; exact ⟨a, _, c, e⟩
      have K7 := Lib.hid (KN.out _ _ K5.out b7)
      have LX := Lib.hid hL
      obtain ⟨-, -, r7, -, -⟩ := KO.out _ K7.out
      obtain ⟨d0, d1, f0, f1⟩ := cells2 _ (B + 1) _ _ _ r7
      clear hL b7 r7
      go_wp2
      exact EY.out _ _ ay ly cy K5.out K7.out AC.out Q0.out LX.out _ rfl rfl
  · have t1 : (cd != 0) = true := by simpa using qc
    have VV := Lib.hid (VA.out qc)
    have NI := Lib.hid (NOI.out qc)
    replace qc := Lib.hid qc
    go_enter Tryz.func13, Tryz.ntmps13
    go_wp2_with fail
    try rw [hw1]
    try rw [z1]
    try rw [hw2]
    refine (HO.out _ K2.out).mono ?_
    rintro e w3 ⟨zi, s, rfl, ⟨hz, -⟩, b3⟩
    obtain ⟨rfl, rfl⟩ := hz NI.out
    have K3 := Lib.hid (KN.out _ _ K2.out b3)
    have K4 := Lib.hid (KA.out w3 #[.int .i64 0, .slice none 0 0] 45 K3.out)
    obtain ⟨-, -, r4, -, -⟩ := KO.out _ K4.out
    obtain ⟨d0, d1, f0, f1⟩ := cells2 _ (B + 1) _ _ _ r4
    clear c0 c1 b3 r4
    go_wp2
    exact EN.out _ cd K4.out VV.out _ rfl rfl

/-! RemoveLine: the law. -/
section
open Go.RowKit
set_option linter.unusedVariables false
set_option linter.unusedSimpArgs false

set_option maxRecDepth 100000 in
set_option maxHeartbeats 4000000 in
theorem law_FnExactRemoveLine (n : Int) (v0 : Value) (xs : List (List Int)) (x1 : Int) (w : World) (_ : (Lit.int .i64 n).wf = true) (hv : RowsAt w v0 xs) (hx : ∀ r ∈ xs, ∀ x ∈ r, I64 x) (wf1 : (Lit.int .i64 x1).wf = true) (ht : Tab w) :
    Calls Tryz.prog 4 #[.agg #[.int .i64 n, v0], .int .i64 x1] w fun e w' => e = .returned (.bool true) ∧ Below w.heap.size w w' := by
  obtain ⟨a, cap, rfl, -⟩ := hv.shape
  obtain ⟨len, hlen⟩ : ∃ l, xs.length = l := ⟨_, rfl⟩
  rw [hlen] at hv ⊢
  have HL := Lib.hid hlen
  have S1 := Arg.new n 24 hv
  have hpos := ht.pos
  have TB := Lib.hid (fun W (h : Below w.heap.size w W) => ht.below h hpos)
  have HZ := Lib.hid (fun W (h : RowsAt W (.slice a len cap) xs) => sz_Design W n _ xs 1048576 h (by omega) (by omega))
  have HS := fun W v h => sRemoveLine n xs x1 W v h
  have HI0 := Lib.hid (fun hl W v h t => iRemoveLine n xs x1 hl W v h t)
  have LT := totRemoveLine n xs x1
  obtain ⟨zn, hzn⟩ : ∃ z, RemoveLine_N n xs x1 = z := ⟨_, rfl⟩
  obtain ⟨zl, hzl⟩ : ∃ z, RemoveLine_L n xs x1 = z := ⟨_, rfl⟩
  obtain ⟨zc, hzc⟩ : ∃ z, RemoveLine_C n xs x1 = z := ⟨_, rfl⟩
  rw [hzl] at LT
  simp only [hzn, hzl, hzc] at HS HI0
  have HS := Lib.hid HS
  have tzc : (zc != zc) = false := by simp
  obtain ⟨w1, hw1⟩ : ∃ w1, w.alloc (.cells #[.int .i64 n, .slice a len cap] 24) = w1 := ⟨_, rfl⟩
  obtain ⟨A, hA⟩ : ∃ A, w.heap.size = A := ⟨_, rfl⟩
  rw [hw1, hA] at S1
  clear hzn hzl hzc wf1 hv hx hlen ht hpos
  obtain ⟨c0, c1⟩ := S1.out.2.2.1.cells
  go_enter Tryz.func4, Tryz.ntmps4
  go_wp2_with fail
  try rw [hw1]
  refine (HZ.out _ (Arg.rows S1)).mono ?_
  rintro e w2 ⟨q, rfl, hq, b2⟩
  have S2 := Arg.next S1 b2
  clear b2 c0 c1 hw1 HZ
  by_cases k : q < 0
  · have t : decide (q < 0) = true := decide_eq_true k
    go_wp2
    go_ret
    exact ⟨rfl, S2.out.2.2.2⟩
  have t : decide (q < 0) = false := decide_eq_false k
  obtain ⟨hq1, -⟩ := hq (by omega)
  have HTo := Lib.hid (fun W (h : RowsAt W (.slice a len cap) xs) => copy_Design W n _ xs h (by omega))
  have HI := Lib.hid (HI0.out (by omega))
  have HE := Lib.hid (fun u u' W (h1 : RowsAt W u xs) (h2 : RowsAt W u' xs) => eq_Design W n u u' xs h1 h2)
  have TQ : tot xs ≤ 1048576 := by omega
  clear hq HI0
  obtain ⟨c0, c1⟩ := S2.out.2.2.1.cells
  go_wp2_with fail
  refine (HTo.out _ (Arg.rows S2)).mono ?_
  rintro e w3 ⟨v3, rfl, i3, b3⟩
  have S3 := Arg.next S2 b3
  have I3 := Lib.hid i3.at
  obtain ⟨b0, hb0⟩ : ∃ b, w3.heap.size = b := ⟨_, rfl⟩
  have AB0 : A < b0 := by rw [← hb0]; exact S3.out.2.2.1.lt
  clear i3 b3 c0 c1 S2
  -- the model's
  go_wp2_with fail
  refine (HS.out _ _ I3.out).mono ?_
  rintro e w4 ⟨u4, rfl, i4, b4⟩
  obtain ⟨a4, l4, q4, rfl⟩ : ∃ a l c, u4 = .slice a l c := by obtain ⟨a, c, e, -⟩ := i4.at.shape; exact ⟨a, _, c, e⟩
  have C5 := Cpy.new zn 26 i4 b4.size
  have b5 : Below w4.heap.size w4 (w4.alloc (.cells #[.int .i64 zn, .slice a4 l4 q4] 26)) := (Below.refl _ _).alloc (Nat.le_refl _) _
  have S5 := Arg.next (Arg.next S3 b4) b5
  have z5 := World.size_alloc w4 (.cells #[.int .i64 zn, .slice a4 l4 q4] 26)
  obtain ⟨P0, hP0⟩ : ∃ P, w4.heap.size = P := ⟨_, rfl⟩
  have BP : b0 ≤ P0 := by rw [← hb0, ← hP0]; exact b4.size
  obtain ⟨w5, hw5⟩ : ∃ W, w4.alloc (.cells #[.int .i64 zn, .slice a4 l4 q4] 26) = W := ⟨_, rfl⟩
  rw [hw5, hP0, hb0] at C5
  rw [hw5, hP0] at z5
  rw [hw5] at S5
  clear i4 b4 b5 I3 S3 HS
  obtain ⟨c0, c1⟩ := S5.out.2.2.1.cells
  -- the copy
  go_wp2_with fail
  try rw [hw5]
  clear hw5
  refine (HTo.out _ (Arg.rows S5)).mono ?_
  rintro e w6 ⟨v6, rfl, i6, b6⟩
  obtain ⟨a6, q6, e6, -⟩ := i6.at.shape
  rw [HL.out] at e6
  subst e6
  have X7 := Cpy.new n 26 i6 b6.size
  have b7 : Below w6.heap.size w6 (w6.alloc (.cells #[.int .i64 n, .slice a6 len q6] 26)) := (Below.refl _ _).alloc (Nat.le_refl _) _
  have S7 := Arg.next (Arg.next S5 b6) b7
  have C7 := Cpy.next (Cpy.next C5 b6) b7
  have z7 := World.size_alloc w6 (.cells #[.int .i64 n, .slice a6 len q6] 26)
  obtain ⟨X, hX⟩ : ∃ P, w6.heap.size = P := ⟨_, rfl⟩
  have PX : P0 < X := by have := b6.size; omega
  obtain ⟨w7, hw7⟩ : ∃ W, w6.alloc (.cells #[.int .i64 n, .slice a6 len q6] 26) = W := ⟨_, rfl⟩
  rw [hw7, hX, z5] at X7
  rw [hw7, hX] at z7
  rw [hw7] at S7 C7
  clear i6 b6 b7 S5 C5 c0 c1 z5
  obtain ⟨x0, x1⟩ := Cpy.cells X7
  -- the program's
  go_wp2_with fail
  try rw [hw7]
  clear hw7
  refine (HI.out _ _ (Cpy.at X7) (TB.out _ S7.out.2.2.2)).mono ?_
  rintro e w8 ⟨u8, rfl, i8, b8⟩
  obtain ⟨a8, l8, q8, rfl⟩ : ∃ a l c, u8 = .slice a l c := by obtain ⟨a, c, e, -⟩ := i8.at.shape; exact ⟨a, _, c, e⟩
  have G9 := Cpy.new zn 26 i8 b8.size
  have b9 : Below w8.heap.size w8 (w8.alloc (.cells #[.int .i64 zn, .slice a8 l8 q8] 26)) := (Below.refl _ _).alloc (Nat.le_refl _) _
  have S9 := Arg.next (Arg.next S7 b8) b9
  have C9 := Cpy.next (Cpy.next C7 b8) b9
  have X9 := Cpy.next (Cpy.next X7 b8) b9
  obtain ⟨P1, hP1⟩ : ∃ P, w8.heap.size = P := ⟨_, rfl⟩
  have XP : X < P1 := by have := b8.size; omega
  obtain ⟨w9, hw9⟩ : ∃ W, w8.alloc (.cells #[.int .i64 zn, .slice a8 l8 q8] 26) = W := ⟨_, rfl⟩
  rw [hw9, hP1, z7] at G9
  rw [hw9] at S9 C9 X9
  clear i8 b8 b9 S7 C7 X7 x0 x1
  obtain ⟨c0, c1⟩ := Cpy.cells C9
  obtain ⟨d0, d1⟩ := Cpy.cells G9
  go_wp2_with fail
  try rw [hw9]
  clear hw9
  refine (eq_Design _ zn _ _ zl (Cpy.at G9) (Cpy.at C9)).mono ?_
  rintro e wa ⟨rfl, ba⟩
  obtain ⟨P, hP⟩ : ∃ P : World → Prop, P = fun W => Cpy P0 b0 zn (.slice a4 l4 q4) 26 zl W ∧ Cpy P1 (X + 1) zn (.slice a8 l8 q8) 26 zl W := ⟨_, rfl⟩
  have KP : Keeps P := fun W W' hb h => by
    rw [hP] at h ⊢
    exact ⟨(Cpy.next (Lib.hid h.1) hb).out, (Cpy.next (Lib.hid h.2) hb).out⟩
  have PO : Hid (∀ W, P W → Cpy P0 b0 zn (.slice a4 l4 q4) 26 zl W ∧ Cpy P1 (X + 1) zn (.slice a8 l8 q8) 26 zl W) := fun W h => by rw [hP] at h; exact h
  have Da : Hid (StD P w A X (P0 + 1) n (.slice a len cap) (.slice a6 len q6) xs wa) := ⟨(Arg.next S9 ba).out, (Cpy.next X9 ba).out, by rw [hP]; exact ⟨(Cpy.next C9 ba).out, (Cpy.next G9 ba).out⟩⟩
  have Dad := StD.next KP Da (Below.refl _ _).drew
  clear hP ba c0 c1 d0 d1 S9 C9 X9 G9
  go_upto_region 10 with fail
  go_region_held3 (fun w' => (w'.cell? ⟨A, 0, none⟩ = some (.int .i64 n) ∧ w'.cell? ⟨A, 1, none⟩ = some (.slice a len cap)) ∧ (w'.cell? ⟨X, 0, none⟩ = some (.int .i64 n) ∧ w'.cell? ⟨X, 1, none⟩ = some (.slice a6 len q6)) ∧ Hid (StD P w A X (P0 + 1) n (.slice a len cap) (.slice a6 len q6) xs w')) (first | exact held_std (by assumption))
    (first | (go_at_call 7; refine (HTo.out _ (Arg.rows (Lib.hid (Hid.out (by assumption : Hid (StD P w A X (P0 + 1) n (.slice a len cap) (.slice a6 len q6) xs _))).1))).mono ?_; rintro e wc ⟨v9, rfl, i9, b9⟩; have Dc := StD.next KP (by assumption) b9; have I9 := Lib.hid i9.at) | (go_at_call 9; refine (HE.out _ _ _ Dc.out.2.1.2.1.at I9.out).mono ?_; rintro e wd ⟨rfl, bd⟩; have Dd := StD.next KP Dc bd))
  clear Da Dad Dc I9
  obtain ⟨x0, x1⟩ := Dd.out.2.1.1.cells
  go_wp2_with fail
  refine (mark_Design _ (P0 + 1) X n _ xs 1 Dd.out.2.1.2.1 (by omega) (by omega)).mono ?_
  rintro e we ⟨rfl, me⟩
  have be : Below wd.heap.size wd (wd.alloc (.cells #[.int .i64 n, .slice a6 len q6] 26)) := (Below.refl _ _).alloc (Nat.le_refl _) _
  have Se := Arg.mark (Arg.next (Lib.hid Dd.out.1) be) me (by omega)
  obtain ⟨g1, g2⟩ := PO.out _ Dd.out.2.2
  have Ce := Cpy.keep (Cpy.next (Lib.hid g1) be) me (.inl (by omega))
  have Ge := Cpy.keep (Cpy.next (Lib.hid g2) be) me (.inr (by omega))
  obtain ⟨kq, hkq⟩ : ∃ q : Int, 1 + (tot xs : Int) = q := ⟨_, rfl⟩
  rw [hkq]
  have fq : decide (kq < 0) = false := decide_eq_false (by omega)
  clear hkq be me g1 g2 x0 x1 Dd
  obtain ⟨c0, c1⟩ := Cpy.cells Ce
  obtain ⟨d0, d1⟩ := Cpy.cells Ge
  go_wp2_with fail
  refine (eq_Design _ zn _ _ zl (Cpy.at Ge) (Cpy.at Ce)).mono ?_
  rintro e wf ⟨rfl, bf⟩
  have Sf := Arg.next Se bf
  have Cf := Cpy.next Ce bf
  have Gf := Cpy.next Ge bf
  clear bf c0 c1 d0 d1 Se Ce Ge
  obtain ⟨d0, d1⟩ := Cpy.cells Gf
  go_wp2_with fail
  refine (mark_DesignR _ (X + 1) P1 zn _ zl 1 Gf.out.2.1 (by omega) (by omega)).mono ?_
  rintro e wg ⟨rfl, rg, mg⟩
  have bg : Below wf.heap.size wf (wf.alloc (.cells #[.int .i64 zn, .slice a8 l8 q8] 26)) := (Below.refl _ _).alloc (Nat.le_refl _) _
  have Sg := Arg.mark (Arg.next Sf bg) mg (by omega)
  have Cg := Cpy.keep (Cpy.next Cf bg) mg (.inl (by omega))
  have Gg := Cpy.marked (Cpy.next Gf bg) mg rg
  obtain ⟨q2, hq2⟩ : ∃ q : Int, 1 + (tot zl : Int) = q := ⟨_, rfl⟩
  rw [hq2]
  have f2 : decide (q2 < 0) = false := decide_eq_false (by omega)
  have e2 : (q2 != q2) = false := by simp
  have HQ2 := Lib.hid hq2
  clear bg mg rg hq2 d0 d1 Sf Cf Gf
  obtain ⟨d0, d1⟩ := Cpy.cells Gg
  go_wp2_with fail
  refine (held_Design _ zn _ zl 1 (Cpy.at Gg) (by omega) (by omega)).mono ?_
  rintro e wh ⟨rfl, bh⟩
  rw [HQ2.out]
  have Sh := Arg.next Sg bh
  have Ch := Cpy.next Cg bh
  have Gh := Cpy.next Gg bh
  clear bh d0 d1 Sg Cg Gg
  obtain ⟨c0, c1⟩ := Sh.out.2.2.1.cells
  go_wp2_with fail
  refine (HTo.out _ (Arg.rows Sh)).mono ?_
  rintro e wi ⟨vi, rfl, ii, bi⟩
  have Si := Arg.next Sh bi
  have Ci := Cpy.next Ch bi
  have Gi := Cpy.next Gh bi
  have Ii := Lib.hid ii.at
  clear ii bi c0 c1 Sh Ch Gh
  go_wp2_with fail
  refine (HI.out _ _ Ii.out (TB.out _ Si.out.2.2.2)).mono ?_
  rintro e wj ⟨uj, rfl, ij, bj⟩
  obtain ⟨aj, lj, qj, rfl⟩ : ∃ a l c, uj = .slice a l c := by obtain ⟨a, c, e, -⟩ := ij.at.shape; exact ⟨a, _, c, e⟩
  have Fk := Cpy.new zn 26 ij bj.size
  have bk : Below wj.heap.size wj (wj.alloc (.cells #[.int .i64 zn, .slice aj lj qj] 26)) := (Below.refl _ _).alloc (Nat.le_refl _) _
  have Sk := Arg.next (Arg.next Si bj) bk
  have Ck := Cpy.next (Cpy.next Ci bj) bk
  have Gk := Cpy.next (Cpy.next Gi bj) bk
  obtain ⟨wk, hwk⟩ : ∃ W, wj.alloc (.cells #[.int .i64 zn, .slice aj lj qj] 26) = W := ⟨_, rfl⟩
  rw [hwk] at Fk Sk Ck Gk
  obtain ⟨P2, hP2⟩ : ∃ P, wj.heap.size = P := ⟨_, rfl⟩
  rw [hP2] at Fk
  clear ij bj bk Si Ci Gi Ii
  obtain ⟨c0, c1⟩ := Cpy.cells Ck
  obtain ⟨d0, d1⟩ := Cpy.cells Fk
  go_wp2_with fail
  try rw [hwk]
  clear hwk
  refine (eq_Design _ zn _ _ zl (Cpy.at Fk) (Cpy.at Ck)).mono ?_
  rintro e wl ⟨rfl, bl⟩
  have Sl := Arg.next Sk bl
  have Gl := Cpy.next Gk bl
  clear bl c0 c1 d0 d1 Sk Ck Gk Fk
  obtain ⟨d0, d1⟩ := Cpy.cells Gl
  go_wp2_with fail
  refine (held_Design _ zn _ zl 1 (Cpy.at Gl) (by omega) (by omega)).mono ?_
  rintro e wm ⟨rfl, bm⟩
  rw [HQ2.out]
  have Sm := Arg.next Sl bm
  clear bm d0 d1 Sl Gl
  go_wp2
  go_ret
  exact ⟨rfl, Sm.out.2.2.2⟩
end
end Go.Proofs.YtdhlnagkhkcoiaaGreatDoor
