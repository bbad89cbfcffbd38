/- ThirdPoint: the model's and the program's. -/
import Derived.Test.YtanfodbpgpfjmabDoorTsy
import Derived.Test.YtanfodbpgpfjmabDoorHas
namespace Go.Proofs.YtanfodbpgpfjmabDoor
open Go.RowKit Go.Shelf
set_option linter.unusedVariables false
set_option linter.unusedSimpArgs false

/-- Two different points. -/
def twoB (n a b : Int) : Bool := decide ((0 ≤ a ∧ a < n) ∧ (0 ≤ b ∧ b < n) ∧ a ≠ b)
noncomputable def ThirdPoint_0 (n : Int) (xss : List (List Int)) (a b : Int) : Int := if tripB n xss = true then (if twoB n a b = true then thirdI a b xss else 0) else 0
noncomputable def ThirdPoint_1 (n : Int) (xss : List (List Int)) (a b : Int) : Int := if tripB n xss = true then (if twoB n a b = true then 0 else 2) else 1
theorem tp_no {n : Int} {xss : List (List Int)} (a b : Int) (h : tripB n xss = false) : ThirdPoint_0 n xss a b = 0 ∧ ThirdPoint_1 n xss a b = 1 := by
  unfold ThirdPoint_0 ThirdPoint_1; rw [h]; exact ⟨rfl, rfl⟩
theorem tp_range {n : Int} {xss : List (List Int)} {a b : Int} (h : tripB n xss = true) (h2 : twoB n a b = false) : ThirdPoint_0 n xss a b = 0 ∧ ThirdPoint_1 n xss a b = 2 := by
  unfold ThirdPoint_0 ThirdPoint_1; rw [h, h2]; exact ⟨rfl, rfl⟩
theorem tp_ok {n : Int} {xss : List (List Int)} {a b : Int} (h : tripB n xss = true) (h2 : twoB n a b = true) : ThirdPoint_0 n xss a b = thirdI a b xss ∧ ThirdPoint_1 n xss a b = 0 := by
  unfold ThirdPoint_0 ThirdPoint_1; rw [h, h2]; exact ⟨rfl, rfl⟩
theorem ends3' {fn : Func} {i j : Nat} (hfn : fn.results = #[.cell i 47, .tmp j]) (W : World) (q : Nat) (z0 z1 z2 : Value) (hk : W.heap[q]? = some (.cells #[z0, z1, z2] 47 (0, 0))) (a b c : Value) (o : Value) (Φ : Ending → World → Prop)
    (hΦ : Φ (.returned (.tuple #[.agg #[a, b, c], o])) (((W.setCell ⟨q, 0, none⟩ a).setCell ⟨q, 1, none⟩ b).setCell ⟨q, 2, none⟩ c)) (tmps : Array Value) (t2 : tmps.getD i undef = .pointer (some ⟨q, 0, none⟩)) (t3 : tmps.getD j undef = o) :
    bodyPost Tryd.prog fn Φ Exit.ret { tmps := tmps, defers := [] } (((W.setCell ⟨q, 0, none⟩ a).setCell ⟨q, 1, none⟩ b).setCell ⟨q, 2, none⟩ c) := by
  obtain ⟨R9, -⟩ := three W q _ _ _ a b c _ hk
  obtain ⟨w9, hw9⟩ : ∃ w9, (((W.setCell ⟨q, 0, none⟩ a).setCell ⟨q, 1, none⟩ b).setCell ⟨q, 2, none⟩ c) = w9 := ⟨_, rfl⟩
  rw [hw9] at R9 hΦ ⊢
  have hld := run_loadVar_row (P := Tryd.prog) _ _ 47 47 #[a, b, c] (0, 0) _ R9 Tryd.underlying47 rfl Tryd.infoTs
  have t2' : tmps[i]?.getD undef = .pointer (some ⟨q, 0, none⟩) := by simpa using t2
  have t3' : tmps[j]?.getD undef = o := by simpa using t3
  refine bodyPost_ret (v := .tuple #[.agg #[a, b, c], o]) ?_ rfl hΦ
  rw [results_cell_tmp hfn]
  simp [asAddr, Result.andThen, t2', t3', hld]
theorem InP_of {n : Nat} {xss : List (List Int)} (h : IsT n xss) {a b : Int} (h2 : twoB n a b = true) : InP (fun i => xss.getD i []) xss.length a b := by
  obtain ⟨⟨a0, a1⟩, ⟨b0, b1⟩, hne⟩ := of_decide_eq_true h2
  obtain ⟨x, rfl⟩ : ∃ x : Nat, a = x := ⟨a.toNat, by omega⟩
  obtain ⟨y, rfl⟩ : ∃ y : Nat, b = y := ⟨b.toNat, by omega⟩
  obtain ⟨i, hi, h1, h2⟩ := h.block (a := x) (b := y) (by omega) (by omega) (by omega)
  exact ⟨i, hi, h1, h2, hne⟩

set_option maxRecDepth 100000 in
set_option maxHeartbeats 4000000 in
theorem iThird (w : World) (n : Int) (sa : Option Addr) (sl sc b k : Nat) (T : Int → Int → Int) (Q : Int → Int → Prop) (h : MapT w b k T Q) (x y : Int) (hq : Q x y) :
    Calls Tryd.prog 29 #[.agg #[.int .i64 n, .slice sa sl sc, .map (some b)], .int .i64 x, .int .i64 y] w fun e w' => e = .returned (.int .i64 (T x y)) ∧ Below w.heap.size w w' := by
  obtain ⟨B, hB⟩ : ∃ B, w.heap.size = B := ⟨_, rfl⟩
  obtain ⟨w1, hw1⟩ : ∃ w1, w.alloc (.cells #[.int .i64 n, .slice sa sl sc, .map (some b)] 47) = w1 := ⟨_, rfl⟩
  have b1 : Below B w w1 := by rw [← hw1]; exact (Below.refl _ _).alloc (by omega) _
  have A1 : w1.heap[B]? = some (.cells #[.int .i64 n, .slice sa sl sc, .map (some b)] 47 (0, 0)) := by rw [← hw1, ← hB]; exact heap_alloc_new _ _
  have hlook := (h.below b1 (by have := h.lt; omega)).look hq
  have c2 : w1.cell? ⟨B, 2, none⟩ = some (.map (some b)) := by rw [cell_of_row w1 B 2 _ _ _ A1]; rfl
  have HB := Lib.hid hB
  have B1 := Lib.hid b1
  clear h b1 A1 hq
  obtain ⟨z, hz⟩ : ∃ z, T x y = z := ⟨_, rfl⟩
  rw [hz] at hlook ⊢
  clear hz
  go_enter Tryd.func29, Tryd.ntmps29
  go_wp2
  try rw [hw1]
  go_ret
  exact ⟨rfl, by rw [HB.out]; exact B1.out⟩

/-- What tripleSystemWith leaves. -/
def TwOut (n : Int) (xss : List (List Int)) (a b : Int) (B : Nat) (w' : World) (z : Value) : Prop :=
  (¬ (tripB n xss = true ∧ twoB n a b = true) → z = tsZ) ∧ (tripB n xss = true ∧ twoB n a b = true → TsOut n xss B w' z true)
set_option maxRecDepth 100000 in
set_option maxHeartbeats 4000000 in
theorem iTw (n : Int) (xss : List (List Int)) (a b : Int) (hx : xss.length ≤ 1048576) (w : World) (v : Value) (hv : RowsAt w v xss) (ht : Tab w) :
    Calls Tryd.prog 28 #[.agg #[.int .i64 n, v], .int .i64 a, .int .i64 b] w fun e w' => ∃ z, e = .returned (.tuple #[z, .int .i64 (ThirdPoint_1 n xss a b)]) ∧ TwOut n xss a b w.heap.size w' z ∧ Below w.heap.size w w' := by
  obtain ⟨va, cap, rfl, -⟩ := hv.shape
  obtain ⟨m, hm⟩ : ∃ m, xss.length = m := ⟨_, rfl⟩
  rw [hm] at hv ⊢
  obtain ⟨B, hB⟩ : ∃ B, w.heap.size = B := ⟨_, rfl⟩
  have hpos : 0 < B := by rw [← hB]; exact ht.pos
  obtain ⟨w1, hw1⟩ : ∃ w1, w.alloc (.cells #[.int .i64 n, .slice va m cap] 27) = w1 := ⟨_, rfl⟩
  have z1 : w1.heap.size = B + 1 := by rw [← hw1, World.size_alloc, hB]
  have b1 : Below B w w1 := by rw [← hw1]; exact (Below.refl _ _).alloc (by omega) _
  have A1 : w1.heap[B]? = some (.cells #[.int .i64 n, .slice va m cap] 27 (0, 0)) := by rw [← hw1, ← hB]; exact heap_alloc_new _ _
  obtain ⟨w2, hw2⟩ : ∃ w2, w1.alloc (.cells #[.int .i64 0, .slice none 0 0, .map none] 47) = w2 := ⟨_, rfl⟩
  have z2 : w2.heap.size = B + 2 := by rw [← hw2, World.size_alloc, z1]
  have b12 : Below (B + 1) w1 w2 := by rw [← hw2]; exact (Below.refl _ _).alloc (Nat.le_of_eq z1.symm) _
  have b2 : Below B w w2 := b1.trans (b12.mono (Nat.le_succ B))
  have R2 : w2.heap[B + 1]? = some (.cells #[.int .i64 0, .slice none 0 0, .map none] 47 (0, 0)) := by rw [← hw2, ← z1]; exact heap_alloc_new _ _
  have A2 := (b12.block B (Nat.lt_succ_self B)).trans A1
  have c0 : w2.cell? ⟨B, 0, none⟩ = some (.int .i64 n) := by rw [cell_of_row w2 B 0 _ _ _ A2]; rfl
  have c1 : w2.cell? ⟨B, 1, none⟩ = some (.slice va m cap) := by rw [cell_of_row w2 B 1 _ _ _ A2]; rfl
  have HO := Lib.hid (iTs n xss hx w2 _ (hv.below b2 (by omega)) (ht.below b2 hpos))
  rw [z2] at HO
  have HB := Lib.hid hB
  have B2 := Lib.hid b2
  have HR2 := Lib.hid R2
  have EN : Hid (∀ (W : World) (cd : Int), W.heap[B + 1]? = some (.cells #[.int .i64 0, .slice none 0 0, .map none] 47 (0, 0)) → Below B w W → ¬ (tripB n xss = true ∧ twoB n a b = true) → ThirdPoint_1 n xss a b = cd → ∀ (tmps : Array Value), tmps.getD 6 undef = .pointer (some ⟨B + 1, 0, none⟩) → tmps.getD 7 undef = .int .i64 cd →
      bodyPost Tryd.prog Tryd.f28 (fun e w' => ∃ z, e = .returned (.tuple #[z, .int .i64 (ThirdPoint_1 n xss a b)]) ∧ TwOut n xss a b w.heap.size w' z ∧ Below w.heap.size w w') Exit.ret { tmps := tmps, defers := [] } (((W.setCell ⟨B + 1, 0, none⟩ (.int .i64 0)).setCell ⟨B + 1, 1, none⟩ (.slice none 0 0)).setCell ⟨B + 1, 2, none⟩ (.map none))) := fun W cd hk hb hf hc tmps t2 t3 => by
    refine ends3' (fn := Tryd.f28) (i := 6) (j := 7) rfl W (B + 1) _ _ _ hk _ _ _ _ _ ⟨tsZ, by rw [hc]; rfl, ⟨fun _ => rfl, fun h => absurd h hf⟩, ?_⟩ tmps t2 t3
    rw [HB.out]
    exact (three W (B + 1) _ _ _ _ _ _ _ hk).2.1 B w (Nat.le_succ B) hb
  have VN := Lib.hid (fun h => (tp_no (n := n) (xss := xss) a b h).2)
  have VR := Lib.hid (fun h h2 => (tp_range (n := n) (xss := xss) (a := a) (b := b) h h2).2)
  have VO := Lib.hid (fun h h2 => (tp_ok (n := n) (xss := xss) (a := a) (b := b) h h2).2)
  clear hv A1 b1 A2 R2 b12 b2 ht
  cases hp : tripB n xss with
  | false =>
    have V := Lib.hid (VN.out hp)
    have NT : Hid (¬ (tripB n xss = true ∧ twoB n a b = true)) := fun h => by rw [hp] at h; cases h.1
    rw [hp] at HO
    clear hp
    go_enter Tryd.func28, Tryd.ntmps28
    go_wp2_with fail
    try rw [hw1]
    try rw [hw2]
    refine HO.out.mono ?_
    rintro e w3 ⟨z, rfl, ⟨hz, -⟩, b3⟩
    have hz := hz rfl
    unfold tsZ at hz
    rw [hz]
    clear hz
    have s3 : B + 2 ≤ w3.heap.size := by have := b3.size; omega
    have R3 := (b3.block (B + 1) (by omega)).trans HR2.out
    have B3 : Below B w w3 := B2.out.trans (b3.mono (by omega))
    have b34 : Below w3.heap.size w3 (w3.alloc (.cells #[.int .i64 0, .slice none 0 0, .map none] 47)) := (Below.refl _ _).alloc (Nat.le_refl _) _
    have R4 := (b34.block (B + 1) (by omega)).trans R3
    have B4 : Below B w (w3.alloc (.cells #[.int .i64 0, .slice none 0 0, .map none] 47)) := B3.trans (b34.mono (by omega))
    obtain ⟨d0, d1, d2, f0, f1, f2⟩ := cells3 (w3.alloc (.cells #[.int .i64 0, .slice none 0 0, .map none] 47)) (B + 1) _ _ _ _ R4
    have RR4 := Lib.hid R4
    have BB4 := Lib.hid B4
    clear b3 c0 c1 R3 B3 b34 R4 B4
    go_wp2
    exact EN.out _ 1 RR4.out BB4.out NT.out V.out _ rfl rfl
  | true =>
    obtain ⟨N, rfl, hT⟩ := of_tripB hp
    have HT := Lib.hid hT
    have HP := Lib.hid hp
    rw [hp] at HO
    clear hp hT
    go_enter Tryd.func28, Tryd.ntmps28
    go_wp2_with fail
    try rw [hw1]
    try rw [hw2]
    refine HO.out.mono ?_
    rintro e w3 ⟨z, rfl, ⟨-, hz⟩, b3⟩
    obtain ⟨g, S, bm, rfl, hg, hbm, hU, hS, hM⟩ := hz rfl
    rw [hm] at hU hS hM ⊢
    have s3 : B + 2 ≤ w3.heap.size := by have := b3.size; omega
    have R3 := (b3.block (B + 1) (by omega)).trans HR2.out
    have B3 : Below B w w3 := B2.out.trans (b3.mono (by omega))
    obtain ⟨w4, hw4⟩ : ∃ w4, w3.alloc (.cells #[.int .i64 (N : Int), .slice (some ⟨g, 0, none⟩) m m, .map (some bm)] 47) = w4 := ⟨_, rfl⟩
    have b34 : Below w3.heap.size w3 w4 := by rw [← hw4]; exact (Below.refl _ _).alloc (Nat.le_refl _) _
    have R4 := (b34.block (B + 1) (by omega)).trans R3
    have B4 : Below B w w4 := B3.trans (b34.mono (by omega))
    have N4 : w4.heap[w3.heap.size]? = some (.cells #[.int .i64 (N : Int), .slice (some ⟨g, 0, none⟩) m m, .map (some bm)] 47 (0, 0)) := by rw [← hw4]; exact heap_alloc_new _ _
    have U4 := Lib.hid (hU.below b34 hU.lt)
    have M4 := Lib.hid (hM.below b34 hM.lt)
    have S4 := Lib.hid hS
    obtain ⟨d0, d1, d2, f0, f1, f2⟩ := cells3 w4 (B + 1) _ _ _ _ R4
    obtain ⟨J, hJ⟩ : ∃ J, w3.heap.size = J := ⟨_, rfl⟩
    rw [hJ] at N4 s3
    obtain ⟨e0, e1, e2, -, -, -⟩ := cells3 w4 J _ _ _ _ N4
    have RR4 := Lib.hid R4
    have BB4 := Lib.hid B4
    have gl : g < J := by rw [← hJ]; exact hU.lt
    have ml : bm < J := by rw [← hJ]; exact hM.lt
    clear b3 c0 c1 R3 B3 b34 R4 B4 N4 hU hM hS
    by_cases q0 : a < 0
    · have TW : Hid (twoB N a b = false) := decide_eq_false (by omega)
      have V := Lib.hid (VR.out HP.out TW.out)
      have NT : Hid (¬ (tripB N xss = true ∧ twoB N a b = true)) := fun h => by rw [TW.out] at h; cases h.2
      have t0 : decide (a < 0) = true := decide_eq_true q0
      have t0' : decide (a < 0) = true := decide_eq_true q0
      clear TW
      have q0 := Lib.hid q0
      go_wp2
      try rw [hw4]
      exact EN.out _ 2 RR4.out BB4.out NT.out V.out _ rfl rfl
    have t0 : decide (a < 0) = false := decide_eq_false q0
    have t0' : decide (a < 0) = false := decide_eq_false q0
    by_cases q1 : (N : Int) ≤ a
    · have TW : Hid (twoB N a b = false) := decide_eq_false (by omega)
      have V := Lib.hid (VR.out HP.out TW.out)
      have NT : Hid (¬ (tripB N xss = true ∧ twoB N a b = true)) := fun h => by rw [TW.out] at h; cases h.2
      have t1 : decide (a ≥ (N : Int)) = true := decide_eq_true q1
      have t1' : decide ((N : Int) ≤ a) = true := decide_eq_true q1
      clear TW
      have q1 := Lib.hid q1
      go_wp2
      try rw [hw4]
      exact EN.out _ 2 RR4.out BB4.out NT.out V.out _ rfl rfl
    have t1 : decide (a ≥ (N : Int)) = false := decide_eq_false q1
    have t1' : decide ((N : Int) ≤ a) = false := decide_eq_false q1
    by_cases q2 : b < 0
    · have TW : Hid (twoB N a b = false) := decide_eq_false (by omega)
      have V := Lib.hid (VR.out HP.out TW.out)
      have NT : Hid (¬ (tripB N xss = true ∧ twoB N a b = true)) := fun h => by rw [TW.out] at h; cases h.2
      have t2 : decide (b < 0) = true := decide_eq_true q2
      have t2' : decide (b < 0) = true := decide_eq_true q2
      clear TW
      have q2 := Lib.hid q2
      go_wp2
      try rw [hw4]
      exact EN.out _ 2 RR4.out BB4.out NT.out V.out _ rfl rfl
    have t2 : decide (b < 0) = false := decide_eq_false q2
    have t2' : decide (b < 0) = false := decide_eq_false q2
    by_cases q3 : (N : Int) ≤ b
    · have TW : Hid (twoB N a b = false) := decide_eq_false (by omega)
      have V := Lib.hid (VR.out HP.out TW.out)
      have NT : Hid (¬ (tripB N xss = true ∧ twoB N a b = true)) := fun h => by rw [TW.out] at h; cases h.2
      have t3 : decide (b ≥ (N : Int)) = true := decide_eq_true q3
      have t3' : decide ((N : Int) ≤ b) = true := decide_eq_true q3
      clear TW
      have q3 := Lib.hid q3
      go_wp2
      try rw [hw4]
      exact EN.out _ 2 RR4.out BB4.out NT.out V.out _ rfl rfl
    have t3 : decide (b ≥ (N : Int)) = false := decide_eq_false q3
    have t3' : decide ((N : Int) ≤ b) = false := decide_eq_false q3
    by_cases q4 : a = b
    · have TW : Hid (twoB N a b = false) := decide_eq_false (by omega)
      have V := Lib.hid (VR.out HP.out TW.out)
      have NT : Hid (¬ (tripB N xss = true ∧ twoB N a b = true)) := fun h => by rw [TW.out] at h; cases h.2
      have t4 : (a == b) = true := by simpa using q4
      clear TW
      have q4 := Lib.hid q4
      go_wp2
      try rw [hw4]
      exact EN.out _ 2 RR4.out BB4.out NT.out V.out _ rfl rfl
    have t4 : (a == b) = false := by simpa using q4
    have TW : Hid (twoB N a b = true) := decide_eq_true ⟨⟨by omega, by omega⟩, ⟨by omega, by omega⟩, q4⟩
    have V := Lib.hid (VO.out HP.out TW.out)
    have q4 := Lib.hid q4
    go_wp2
    try rw [hw4]
    obtain ⟨-, T1, T2⟩ := three w4 (B + 1) _ _ _ (.int .i64 (N : Int)) (.slice (some ⟨g, 0, none⟩) m m) (.map (some bm)) _ RR4.out
    refine ends3' (fn := Tryd.f28) (i := 6) (j := 7) rfl w4 (B + 1) _ _ _ RR4.out _ _ _ _ _ ⟨_, by rw [V.out]; rfl, ⟨fun h => absurd ⟨HP.out, TW.out⟩ h, fun _ => ⟨fun h => absurd h (by decide), fun _ => ⟨g, S, bm, by rw [hm], by have := HB.out; omega, by have := HB.out; omega, ?_, by rw [hm]; exact S4.out, ?_⟩⟩⟩, by rw [HB.out]; exact T1 B w (Nat.le_succ B) BB4.out⟩ _ rfl rfl
    · rw [hm]; exact (T2 g (by omega)).trans U4.out
    · rw [hm]; exact M4.out.block (T2 bm (by omega))

/-! ThirdPoint: the model's. -/
section
open Go.RowKit Go.Shelf
set_option linter.unusedVariables false
set_option linter.unusedSimpArgs false

set_option maxRecDepth 100000 in
set_option maxHeartbeats 4000000 in
theorem s11Third (N : Nat) (xss : List (List Int)) (h : IsT N xss) (x y : Int) (hx : Sm x) (hy : Sm y) (w : World) (v : Value) (g : Nat) (c1 : w.cell? ⟨g, 1, none⟩ = some v) (hv : RowsAt w v xss) :
    Calls Tryd.prog 27 #[.pointer (some ⟨g, 0, none⟩), .int .i64 x, .int .i64 y] w fun e w' => e = .returned (.int .i64 (thirdI x y xss)) ∧ ∃ d, w' = w.drewN d := by
  obtain ⟨a, cap, rfl, hc⟩ := hv.shape
  have hml := hv.1
  obtain ⟨m, hm⟩ : ∃ m, xss.length = m := ⟨_, rfl⟩
  rw [hm] at c1 hc hml
  have HC := Lib.hid hc
  have HP : Hid (∀ j, j < m → ∃ p q r : Int, xss.getD j [] = [p, q, r] ∧ 0 ≤ p ∧ p < q ∧ q < r ∧ r < 32) := fun j hj => by
    obtain ⟨p, q, r, e, h1, h2, h3, h4⟩ := h.pts (i := j) (by omega)
    have n32 : (N : Int) ≤ 32 := h.des.2.1
    exact ⟨p, q, r, e, h1, h2, h3, by omega⟩
  have HD : Hid (∀ j, j < m → xss.drop j = xss.getD j [] :: xss.drop (j + 1)) := fun j hj => by
    rw [List.drop_eq_getElem_cons (by omega), List.getD_eq_getElem?_getD, List.getElem?_eq_getElem (by omega)]; rfl
  have HE : Hid (thirdI x y (xss.drop m) = -1) := by unfold Hid; rw [List.drop_of_length_le (by omega)]; rfl
  obtain ⟨V, hV⟩ : ∃ V, thirdI x y xss = V := ⟨_, rfl⟩
  have H0 : Hid (thirdI x y (xss.drop 0) = V) := hV
  have HX := Lib.hid hx
  have HY := Lib.hid hy
  rw [hV]
  clear hv hc hm h hV hx hy
  go_enter Tryd.func27, Tryd.ntmps27
  go_wp2
  go_loopw [7] (fun i wr => ∃ j : Nat, j ≤ m ∧ i = .int .i64 j ∧ Hid (thirdI x y (xss.drop j) = V) ∧ ∃ d, wr = w.drewN d) (fun i _ => m - (intOf i).toNat)
  case atStart => exact ⟨0, by omega, rfl, H0, 0, rfl⟩
  case round =>
    obtain ⟨j, hj, rfl, hT, d, rfl⟩ := hrel
    by_cases c : j < m
    · have k1 : decide (j < m) = true := by simpa using c
      have k1' : decide ((j : Int) < (m : Int)) = true := decide_eq_true (by omega)
      have w3 := IntWalk.i64_in ((j : Int) + 1) (by omega)
      have j0 : (0 : Int) ≤ (j : Int) := by omega
      have j1 : (j : Int) < (m : Int) := by omega
      obtain ⟨g1, o1, u, ha, hu, hi⟩ := HC.out j c
      subst ha
      obtain ⟨p, q, r, hpq, p0, pq, qr, r1⟩ := HP.out j c
      have DJ := HD.out j c
      rw [hpq] at hi DJ
      have hT := hT.out
      rw [DJ, thirdI] at hT
      have TN : Hid (¬ (x ∈ [p, q, r] ∧ y ∈ [p, q, r]) → thirdI x y (xss.drop (j + 1)) = V) := fun hn => by rw [if_neg hn] at hT; exact hT
      have TY : Hid (x ∈ [p, q, r] ∧ y ∈ [p, q, r] → p + q + r - x - y = V) := fun hn => by rw [if_pos hn] at hT; simpa using hT
      obtain ⟨gu, ou, cu, rfl, cc0⟩ := hi.first (l := 3) rfl (by omega)
      have hi3 := hi
      have HH := Lib.hid (fun W (z : Int) (hW : IntsAt W (.slice (some ⟨gu, ou, none⟩) 3 cu) [p, q, r]) => shas W _ [p, q, r] z hW)
      have HI := Lib.hid (fun d => (show IntsAt (w.drewN d) (.slice (some ⟨gu, ou, none⟩) 3 cu) [p, q, r] from hi3))
      have cc1 := hi.cellAt rfl (j := 1) (by omega)
      have cc2 := hi.cellAt rfl (j := 2) (by omega)
      simp only [List.getD_cons_zero, List.getD_cons_succ] at cc0 cc1 cc2
      obtain ⟨bx, hbx⟩ : ∃ bx, decide (x ∈ [p, q, r]) = bx := ⟨_, rfl⟩
      obtain ⟨bY, hby⟩ : ∃ bY, decide (y ∈ [p, q, r]) = bY := ⟨_, rfl⟩
      have HHx := Lib.hid (fun W hW => HH.out W x hW)
      have HHy := Lib.hid (fun W hW => HH.out W y hW)
      simp only [hbx] at HHx
      simp only [hby] at HHy
      clear hi hi3 hpq DJ hT HH
      cases bx with
      | false =>
        have TT := Lib.hid (TN.out (fun h => by rw [decide_eq_true h.1] at hbx; cases hbx))
        clear hbx hby TN TY
        go_wp2_with fail
        refine (HHx.out _ (HI.out _)).mono ?_
        rintro e w5 ⟨rfl, rfl⟩
        go_wp2
        go_roundw
        case rel => exact ⟨j + 1, by omega, by go_num, TT, _, rfl⟩
        case measure => simp [intOf]; omega
      | true =>
        cases bY with
        | false =>
          have TT := Lib.hid (TN.out (fun h => by rw [decide_eq_true h.2] at hby; cases hby))
          clear hbx hby TN TY
          go_wp2_with fail
          refine (HHx.out _ (HI.out _)).mono ?_
          rintro e w5 ⟨rfl, rfl⟩
          go_wp2_with fail
          refine (HHy.out _ (HI.out _)).mono ?_
          rintro e w5 ⟨rfl, rfl⟩
          go_wp2
          go_roundw
          case rel => exact ⟨j + 1, by omega, by go_num, TT, _, rfl⟩
          case measure => simp [intOf]; omega
        | true =>
          have TT := Lib.hid (TY.out ⟨of_decide_eq_true hbx, of_decide_eq_true hby⟩)
          have x0 : 0 ≤ x ∧ x ≤ 31 := HX.out
          have y0 : 0 ≤ y ∧ y ≤ 31 := HY.out
          have v1 := IntWalk.i64_in (p + q) (by omega)
          have v2 := IntWalk.i64_in (p + q + r) (by omega)
          have v3 := IntWalk.i64_in (p + q + r - x) (by omega)
          have v4 := IntWalk.i64_in (p + q + r - x - y) (by omega)
          obtain ⟨z, hz⟩ : ∃ z, p + q + r - x - y = z := ⟨_, rfl⟩
          rw [hz] at v4 TT
          have v4' : IntKind.i64.wrap (p + q + r - x - y) = z := by rw [hz]; exact v4
          clear hbx hby TN TY hz
          go_wp2_with fail
          refine (HHx.out _ (HI.out _)).mono ?_
          rintro e w5 ⟨rfl, rfl⟩
          go_wp2_with fail
          refine (HHy.out _ (HI.out _)).mono ?_
          rintro e w5 ⟨rfl, rfl⟩
          go_wp2
          go_quiet (fail)
          go_wp2
          go_ret
          exact ⟨by rw [← TT.out]; rfl, _, by rw [World.drewN_drewN]⟩
    · have k1 : decide (j < m) = false := by simpa using c
      have k1' : decide ((j : Int) < (m : Int)) = false := decide_eq_false (by omega)
      obtain rfl : j = m := by omega
      have TT : Hid (-1 = V) := HE.out.symm.trans hT.out
      go_wp2
      go_ret
      exact ⟨by rw [← TT.out]; rfl, _, rfl⟩

set_option maxRecDepth 100000 in
set_option maxHeartbeats 4000000 in
theorem s11Two (n : Int) (xss : List (List Int)) (a b : Int) (w : World) (v : Value) (g : Nat) (c0 : w.cell? ⟨g, 0, none⟩ = some (.int .i64 n)) (c1 : w.cell? ⟨g, 1, none⟩ = some v) (hv : RowsAt w v xss) :
    Calls Tryd.prog 26 #[.pointer (some ⟨g, 0, none⟩), .int .i64 a, .int .i64 b] w fun e w' => e = .returned (.int .i64 (ThirdPoint_1 n xss a b)) ∧ Below w.heap.size w w' := by
  have HO := Lib.hid (s11Ok n xss w v g c0 c1 hv)
  have lg : g < w.heap.size := World.block_lt_of_cell? w _ c0
  have VN := Lib.hid (fun h => (tp_no (n := n) (xss := xss) a b h).2)
  have VR := Lib.hid (fun h h2 => (tp_range (n := n) (xss := xss) (a := a) (b := b) h h2).2)
  have VO := Lib.hid (fun h h2 => (tp_ok (n := n) (xss := xss) (a := a) (b := b) h h2).2)
  cases hp : tripB n xss with
  | false =>
    have V := Lib.hid (VN.out hp)
    rw [hp] at HO
    clear hp hv c0 c1
    go_enter Tryd.func26, Tryd.ntmps26
    go_wp2_with fail
    refine HO.out.mono ?_
    rintro e w3 ⟨rfl, b3⟩
    have B3 := Lib.hid b3
    clear b3
    go_wp2
    go_ret
    exact ⟨by rw [V.out]; rfl, B3.out⟩
  | true =>
    obtain ⟨N, rfl, hT⟩ := of_tripB hp
    have n32 : (N : Int) ≤ 32 := hT.des.2.1
    have HP := Lib.hid hp
    rw [hp] at HO
    have w1 := IntWalk.i64_in ((N : Int) - 1) (by omega)
    have CC := Lib.hid (fun W (hb : Below w.heap.size w W) => (show W.cell? ⟨g, 0, none⟩ = some (.int .i64 (N : Int)) from (hb.cell (p := ⟨g, 0, none⟩) lg).trans c0))
    have HA := Lib.hid (fun W => in_any a 0 ((N : Int) - 1) W)
    have HB := Lib.hid (fun W => in_any b 0 ((N : Int) - 1) W)
    clear hp hv c0 c1 hT lg
    go_enter Tryd.func26, Tryd.ntmps26
    go_wp2_with fail
    refine HO.out.mono ?_
    rintro e w3 ⟨rfl, b3⟩
    have B3 := Lib.hid b3
    have c3 := CC.out w3 b3
    clear b3 CC
    go_wp2_with fail
    by_cases qa : 0 ≤ a ∧ a ≤ (N : Int) - 1
    · by_cases qb : 0 ≤ b ∧ b ≤ (N : Int) - 1
      · rw [decide_eq_true qa] at HA
        rw [decide_eq_true qb] at HB
        by_cases qe : a = b
        · have t1 : (a == b) = true := by simpa using qe
          have V := Lib.hid (VR.out HP.out (decide_eq_false (by omega)))
          have qe := Lib.hid qe
          clear qa qb
          refine (HA.out _).mono ?_
          rintro e w5 ⟨rfl, rfl⟩
          go_wp2_with fail
          refine (HB.out _).mono ?_
          rintro e w5 ⟨rfl, rfl⟩
          go_wp2
          go_ret
          exact ⟨by rw [V.out]; rfl, B3.out⟩
        · have t1 : (a == b) = false := by simpa using qe
          have V := Lib.hid (VO.out HP.out (decide_eq_true ⟨⟨by omega, by omega⟩, ⟨by omega, by omega⟩, qe⟩))
          have qe := Lib.hid qe
          clear qa qb
          refine (HA.out _).mono ?_
          rintro e w5 ⟨rfl, rfl⟩
          go_wp2_with fail
          refine (HB.out _).mono ?_
          rintro e w5 ⟨rfl, rfl⟩
          go_wp2
          go_ret
          exact ⟨by rw [V.out]; rfl, B3.out⟩
      · rw [decide_eq_true qa] at HA
        rw [decide_eq_false qb] at HB
        have V := Lib.hid (VR.out HP.out (decide_eq_false (by omega)))
        clear qa qb
        refine (HA.out _).mono ?_
        rintro e w5 ⟨rfl, rfl⟩
        go_wp2_with fail
        refine (HB.out _).mono ?_
        rintro e w5 ⟨rfl, rfl⟩
        go_wp2
        go_ret
        exact ⟨by rw [V.out]; rfl, B3.out⟩
    · rw [decide_eq_false qa] at HA
      have V := Lib.hid (VR.out HP.out (decide_eq_false (by omega)))
      clear qa
      refine (HA.out _).mono ?_
      rintro e w5 ⟨rfl, rfl⟩
      go_wp2
      go_ret
      exact ⟨by rw [V.out]; rfl, B3.out⟩

set_option maxRecDepth 100000 in
set_option maxHeartbeats 4000000 in
theorem sThirdPoint (n : Int) (xss : List (List Int)) (a b : Int) (w : World) (v : Value) (hv : RowsAt w v xss) :
    Calls Tryd.prog 12 #[.agg #[.int .i64 n, v], .int .i64 a, .int .i64 b] w fun e w' => e = .returned (.tuple #[.int .i64 (ThirdPoint_0 n xss a b), .int .i64 (ThirdPoint_1 n xss a b)]) ∧ Below w.heap.size w w' := by
  obtain ⟨va, cap, rfl, -⟩ := hv.shape
  obtain ⟨m, hm⟩ : ∃ m, xss.length = m := ⟨_, rfl⟩
  rw [hm] at hv ⊢
  obtain ⟨B, hB⟩ : ∃ B, w.heap.size = B := ⟨_, rfl⟩
  obtain ⟨w1, hw1⟩ : ∃ w1, w.alloc (.cells #[.int .i64 n, .slice va m cap] 27) = w1 := ⟨_, rfl⟩
  have z1 : w1.heap.size = B + 1 := by rw [← hw1, World.size_alloc, hB]
  have b1 : Below B w w1 := by rw [← hw1]; exact (Below.refl _ _).alloc (by omega) _
  have A1 : w1.heap[B]? = some (.cells #[.int .i64 n, .slice va m cap] 27 (0, 0)) := by rw [← hw1, ← hB]; exact heap_alloc_new _ _
  have c0 : w1.cell? ⟨B, 0, none⟩ = some (.int .i64 n) := by rw [cell_of_row w1 B 0 _ _ _ A1]; rfl
  have c1 : w1.cell? ⟨B, 1, none⟩ = some (.slice va m cap) := by rw [cell_of_row w1 B 1 _ _ _ A1]; rfl
  have hv1 := hv.below b1 (by omega)
  have HO := Lib.hid (s11Two n xss a b w1 _ B c0 c1 hv1)
  have HT := Lib.hid (fun (N : Nat) (hT : IsT N xss) (sa : Sm a) (sb : Sm b) W (hb : Below (B + 1) w1 W) => s11Third N xss hT a b sa sb W _ B ((hb.cell (p := ⟨B, 1, none⟩) (Nat.lt_succ_self B)).trans c1) (hv1.below hb (Nat.le_of_eq z1)))
  rw [z1] at HO
  have HB := Lib.hid hB
  have B1 := Lib.hid b1
  clear hv A1 b1 z1 c0 c1 hv1
  cases hp : tripB n xss with
  | false =>
    obtain ⟨V0, V1⟩ := tp_no a b hp
    have V0 := Lib.hid V0
    have V1' := Lib.hid V1
    rw [V1] at HO
    clear hp V1 HT
    go_enter Tryd.func12, Tryd.ntmps12
    go_wp2_with fail
    try rw [hw1]
    refine HO.out.mono ?_
    rintro e w3 ⟨rfl, b3⟩
    have B3 : Hid (Below B w w3) := B1.out.trans (b3.mono (by omega))
    clear b3
    go_wp2
    go_ret2
    exact ⟨by rw [V0.out, V1'.out]; rfl, by rw [HB.out]; exact B3.out⟩
  | true =>
    obtain ⟨N, rfl, hT⟩ := of_tripB hp
    have n32 : (N : Int) ≤ 32 := hT.des.2.1
    cases h2 : twoB N a b with
    | false =>
      obtain ⟨V0, V1⟩ := tp_range hp h2
      have V0 := Lib.hid V0
      have V1' := Lib.hid V1
      rw [V1] at HO
      clear hp V1 HT h2 hT n32
      go_enter Tryd.func12, Tryd.ntmps12
      go_wp2_with fail
      try rw [hw1]
      refine HO.out.mono ?_
      rintro e w3 ⟨rfl, b3⟩
      have B3 : Hid (Below B w w3) := B1.out.trans (b3.mono (by omega))
      clear b3
      go_wp2
      go_ret2
      exact ⟨by rw [V0.out, V1'.out]; rfl, by rw [HB.out]; exact B3.out⟩
    | true =>
      obtain ⟨V0, V1⟩ := tp_ok hp h2
      have V0 := Lib.hid V0
      have V1' := Lib.hid V1
      rw [V1] at HO
      obtain ⟨⟨a0, a1⟩, ⟨b0, b1⟩, -⟩ := of_decide_eq_true h2
      have HT := Lib.hid (HT.out N hT ⟨a0, by omega⟩ ⟨b0, by omega⟩)
      clear hp V1 h2 hT n32 a0 a1 b0 b1
      go_enter Tryd.func12, Tryd.ntmps12
      go_wp2_with fail
      try rw [hw1]
      refine HO.out.mono ?_
      rintro e w3 ⟨rfl, b3⟩
      have B3 : Hid (Below B w w3) := B1.out.trans (b3.mono (by omega))
      have b3 := Lib.hid b3
      go_wp2_with fail
      refine (HT.out _ b3.out).mono ?_
      rintro e w4 ⟨rfl, d, rfl⟩
      go_wp2
      go_ret2
      exact ⟨by rw [V0.out, V1'.out]; rfl, by rw [HB.out]; exact below_drewN B3.out d⟩

set_option maxRecDepth 100000 in
set_option maxHeartbeats 4000000 in
theorem iThirdPoint (n : Int) (xss : List (List Int)) (a b : Int) (hx : xss.length ≤ 1048576) (w : World) (v : Value) (hv : RowsAt w v xss) (ht : Tab w) :
    Calls Tryd.prog 13 #[.agg #[.int .i64 n, v], .int .i64 a, .int .i64 b] w fun e w' => e = .returned (.tuple #[.int .i64 (ThirdPoint_0 n xss a b), .int .i64 (ThirdPoint_1 n xss a b)]) ∧ Below w.heap.size w w' := by
  obtain ⟨va, cap, rfl, -⟩ := hv.shape
  obtain ⟨m, hm⟩ : ∃ m, xss.length = m := ⟨_, rfl⟩
  rw [hm] at hv ⊢
  obtain ⟨B, hB⟩ : ∃ B, w.heap.size = B := ⟨_, rfl⟩
  have hpos : 0 < B := by rw [← hB]; exact ht.pos
  obtain ⟨w1, hw1⟩ : ∃ w1, w.alloc (.cells #[.int .i64 n, .slice va m cap] 27) = w1 := ⟨_, rfl⟩
  have z1 : w1.heap.size = B + 1 := by rw [← hw1, World.size_alloc, hB]
  have b1 : Below B w w1 := by rw [← hw1]; exact (Below.refl _ _).alloc (by omega) _
  have A1 : w1.heap[B]? = some (.cells #[.int .i64 n, .slice va m cap] 27 (0, 0)) := by rw [← hw1, ← hB]; exact heap_alloc_new _ _
  have c0 : w1.cell? ⟨B, 0, none⟩ = some (.int .i64 n) := by rw [cell_of_row w1 B 0 _ _ _ A1]; rfl
  have c1 : w1.cell? ⟨B, 1, none⟩ = some (.slice va m cap) := by rw [cell_of_row w1 B 1 _ _ _ A1]; rfl
  have HO := Lib.hid (iTw n xss a b hx w1 _ (hv.below b1 (by omega)) (ht.below b1 hpos))
  rw [z1] at HO
  have HB := Lib.hid hB
  have B1 := Lib.hid b1
  clear hv A1 b1 z1 ht
  have NO : Hid (¬ (tripB n xss = true ∧ twoB n a b = true) → ThirdPoint_0 n xss a b = 0 ∧ ThirdPoint_1 n xss a b ≠ 0) := fun h => by
    cases hp : tripB n xss with
    | false => obtain ⟨h0, h1⟩ := tp_no a b hp; exact ⟨h0, by rw [h1]; decide⟩
    | true =>
      cases h2 : twoB n a b with
      | false => obtain ⟨h0, h1⟩ := tp_range hp h2; exact ⟨h0, by rw [h1]; decide⟩
      | true => exact absurd ⟨hp, h2⟩ h
  by_cases hk : tripB n xss = true ∧ twoB n a b = true
  · obtain ⟨hp, h2⟩ := hk
    have hk := Lib.hid (And.intro hp h2)
    obtain ⟨N, rfl, hT⟩ := of_tripB hp
    have HQ := Lib.hid (InP_of hT h2)
    obtain ⟨V0, V1⟩ := tp_ok hp h2
    have V0 := Lib.hid V0
    have V1' := Lib.hid V1
    rw [V1] at HO
    clear hp h2 V1 hT NO
    go_enter Tryd.func13, Tryd.ntmps13
    go_wp2_with fail
    try rw [hw1]
    refine HO.out.mono ?_
    rintro e w3 ⟨z, rfl, ⟨-, hz⟩, b3⟩
    obtain ⟨g, S, bm, rfl, hg, hbm, hU, hS, hM⟩ := (hz hk.out).2 rfl
    have B3 : Below B w w3 := B1.out.trans (b3.mono (by omega))
    obtain ⟨w4, hw4⟩ : ∃ w4, w3.alloc (.cells #[.int .i64 (N : Int), .slice (some ⟨g, 0, none⟩) m m, .map (some bm)] 47) = w4 := ⟨_, rfl⟩
    have b34 : Below w3.heap.size w3 w4 := by rw [← hw4]; exact (Below.refl _ _).alloc (Nat.le_refl _) _
    have B4 : Hid (Below B w w4) := B3.trans (b34.mono (by have := B3.size; omega))
    have N4 : w4.heap[w3.heap.size]? = some (.cells #[.int .i64 (N : Int), .slice (some ⟨g, 0, none⟩) m m, .map (some bm)] 47 (0, 0)) := by rw [← hw4]; exact heap_alloc_new _ _
    have HTh := Lib.hid (iThird w4 N (some ⟨g, 0, none⟩) m m bm _ _ _ (hM.below b34 hM.lt) a b HQ.out)
    obtain ⟨e0, e1, e2, -, -, -⟩ := cells3 w4 _ _ _ _ _ N4
    rw [hm]
    clear b3 hz hU hS hM B3 b34 N4 c0 c1 HQ
    go_wp2_with fail
    try rw [hw4]
    refine HTh.out.mono ?_
    rintro e w5 ⟨rfl, b5⟩
    have B5 : Hid (Below B w w5) := B4.out.trans (b5.mono (by have := B4.out.size; omega))
    clear b5
    go_wp2
    go_ret2
    exact ⟨by rw [V0.out, V1'.out]; rfl, by rw [HB.out]; exact B5.out⟩
  · obtain ⟨V0, V1⟩ := NO.out hk
    have V0 := Lib.hid V0
    have hk := Lib.hid hk
    obtain ⟨cd, hcd⟩ : ∃ cd, ThirdPoint_1 n xss a b = cd := ⟨_, rfl⟩
    rw [hcd] at V1 HO ⊢
    have t1 : (cd != 0) = true := by simpa using V1
    clear NO hcd V1
    go_enter Tryd.func13, Tryd.ntmps13
    go_wp2_with fail
    try rw [hw1]
    refine HO.out.mono ?_
    rintro e w3 ⟨z, rfl, ⟨hz, -⟩, b3⟩
    have hz := hz hk.out
    unfold tsZ at hz
    rw [hz]
    clear hz
    have B3 : Below B w w3 := B1.out.trans (b3.mono (by omega))
    have BA : Hid (∀ cs T, Below B w (w3.alloc (.cells cs T))) := fun cs T => B3.alloc (by have := B3.size; omega) _
    clear b3 B3 c0 c1
    go_wp2
    go_ret2
    exact ⟨by rw [V0.out]; rfl, by rw [HB.out]; exact BA.out _ _⟩
end
end Go.Proofs.YtanfodbpgpfjmabDoor
