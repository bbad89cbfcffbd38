/- TriplesOfSquare: the program's. -/
import Derived.Test.YtanfodbpgpfjmaaDoorMta
import Derived.Test.YtanfodbpgpfjmaaDoorMvd
import Derived.Test.YtanfodbpgpfjmaaDoorDmk
namespace Go.Proofs.YtanfodbpgpfjmaaDoor
open Go.RowKit Go.Shelf
set_option linter.unusedVariables false
set_option linter.unusedSimpArgs false

theorem tu1_congr {n : Nat} {f g : Nat → Nat → Int} (h : ∀ x y, x < n → y < n → f x y = g x y) {y : Nat} (hy : y < n) : ∀ x, x ≤ n → tu1 f y x = tu1 g y x
  | 0, _ => rfl
  | x + 1, hx => by rw [tu1, tu1, tu1_congr h hy x (by omega), h x y (by omega) hy]
theorem tu2_congr {n : Nat} {f g : Nat → Nat → Int} (h : ∀ x y, x < n → y < n → f x y = g x y) : ∀ y, y ≤ n → tu2 f y = tu2 g y
  | 0, _ => rfl
  | y + 1, hy => by rw [tu2, tu2, tu2_congr h y (by omega), tu1_congr h (show y < n by omega) y (by omega)]
theorem tu1_small {n : Nat} (hn : n ≤ 10) {f : Nat → Nat → Int} (h : ∀ x y, x < n → y < n → 0 ≤ f x y ∧ f x y < n) {y : Nat} (hy : y < n) : ∀ x, x ≤ n → ∀ t ∈ tu1 f y x, t < 4294967296
  | 0, _, t, ht => by cases ht
  | x + 1, hx, t, ht => by
    rw [tu1, List.mem_append] at ht
    rcases ht with ht | ht
    · exact tu1_small hn h hy x (by omega) t ht
    · split at ht
      · rw [List.mem_singleton] at ht
        have := h x y (by omega) hy
        rw [ht]; exact trip32 (by omega) (by omega) (by omega)
      · cases ht
theorem tu2_small {n : Nat} (hn : n ≤ 10) {f : Nat → Nat → Int} (h : ∀ x y, x < n → y < n → 0 ≤ f x y ∧ f x y < n) : ∀ y, y ≤ n → ∀ t ∈ tu2 f y, t < 4294967296
  | 0, _, t, ht => by cases ht
  | y + 1, hy, t, ht => by
    rw [tu2, List.mem_append] at ht
    rcases ht with ht | ht
    · exact tu2_small hn h y (by omega) t ht
    · exact tu1_small hn h (show y < n by omega) y (by omega) t ht

/-- What the square must be. -/
def toB (n : Nat) (f : Nat → Nat → Int) : Bool := !decide (n < 3) && (allP n (isI f) && (allP n (isC f) && allP n (isS f)))
noncomputable def TriplesOfSquare_N (xss : List (List Int)) : Int := if sqB xss then if toB xss.length (cellF xss) then dxN xss.length ((tu2 (cellF xss) xss.length).map ptsN) else 0 else 0
noncomputable def TriplesOfSquare_L (xss : List (List Int)) : List (List Int) := if sqB xss then if toB xss.length (cellF xss) then dxL ((tu2 (cellF xss) xss.length).map ptsN) else [] else []
noncomputable def TriplesOfSquare_C (xss : List (List Int)) : Int := if sqB xss then if toB xss.length (cellF xss) then dxC ((tu2 (cellF xss) xss.length).map ptsN) else 6 else 1

set_option maxRecDepth 100000 in
set_option maxHeartbeats 4000000 in
theorem iTO1 (W : World) (b n : Nat) (hn : n ≤ 10) (F : Nat → Nat → Int) (hS : SqAt W b n F) (x y : Nat) (hx : x < n) (hy : y < n) :
    Calls Tryd.prog 50 #[.int .i64 x, .int .i64 y, .pointer (some ⟨b, 0, none⟩)] W fun e W' => e = .returned (.int .i64 (F x y)) ∧ Below W.heap.size W W' := by
  have x0 : (0 : Int) ≤ (x : Int) := by omega
  have x1 : (x : Int) < 10 := by omega
  have y0 : (0 : Int) ≤ (y : Int) := by omega
  have y1 : (y : Int) < 10 := by omega
  have m1 := Ia.cell hS (1 + x * 10 + y) (by omega)
  rw [sqC_at _ _ (by omega)] at m1
  obtain ⟨u, hu⟩ : ∃ u, F x y = u := ⟨_, rfl⟩
  rw [hu] at m1 ⊢
  clear hS hu
  go_enter Tryd.func50, Tryd.ntmps50
  go_wp2
  go_ret
  exact ⟨rfl, Below.refl _ _⟩

set_option maxRecDepth 100000 in
set_option maxHeartbeats 4000000 in
theorem iTriplesOfSquare (xss : List (List Int)) (w : World) (v : Value) (hv : RowsAt w v xss) (ht : Tab w) :
    Calls Tryd.prog 21 #[v] w fun e w' => ∃ z, e = .returned (.tuple #[.agg #[.int .i64 (TriplesOfSquare_N xss), z], .int .i64 (TriplesOfSquare_C xss)]) ∧ RowsL w' w.heap.size w'.heap.size z (TriplesOfSquare_L xss) ∧ Below w.heap.size w w' := by
  have hmf : ∀ (fn : Fn) (first cap : Array Value) (w : World), (Instr.makeFunc fn first cap).run Tryd.prog w = .ok (.func fn first cap) w := fun _ _ _ _ => rfl
  obtain ⟨B, hB⟩ : ∃ B, w.heap.size = B := ⟨_, rfl⟩
  have hpos : 0 < B := by rw [← hB]; exact ht.pos
  obtain ⟨w1, hw1⟩ : ∃ w1, w.alloc (.cells #[.int .i64 0, .slice none 0 0] 24) = w1 := ⟨_, rfl⟩
  have z1 : w1.heap.size = B + 1 := by rw [← hw1, World.size_alloc, hB]
  have b1 : Below B w w1 := by rw [← hw1]; exact (Below.refl _ _).alloc (by omega) _
  have R1 : w1.heap[B]? = some (.cells #[.int .i64 0, .slice none 0 0] 24 (0, 0)) := by rw [← hw1, ← hB]; exact heap_alloc_new _ _
  have H0 := Lib.hid (ilsq w1 v xss (hv.below b1 (by omega)))
  have HB := Lib.hid hB
  have BB1 := Lib.hid b1
  have RR1 := Lib.hid R1
  have TB := Lib.hid ht
  rw [z1] at H0
  -- what ends a refusal
  have NO : Hid (∀ (W : World) (c : Int), Below (B + 1) w1 W → TriplesOfSquare_N xss = 0 ∧ TriplesOfSquare_L xss = [] ∧ TriplesOfSquare_C xss = c → ∀ (tmps : Array Value), tmps.getD 2 undef = .pointer (some ⟨B, 0, none⟩) → tmps.getD 3 undef = .int .i64 c →
      bodyPost Tryd.prog Tryd.f21 (fun e w' => ∃ z, e = .returned (.tuple #[.agg #[.int .i64 (TriplesOfSquare_N xss), z], .int .i64 (TriplesOfSquare_C xss)]) ∧ RowsL w' w.heap.size w'.heap.size z (TriplesOfSquare_L xss) ∧ Below w.heap.size w w') Exit.ret { tmps := tmps, defers := [] } ((W.setCell ⟨B, 0, none⟩ (.int .i64 0)).setCell ⟨B, 1, none⟩ (.slice none 0 0))) := fun W c hW hV tmps h2 h3 => by
    obtain ⟨V0, V1, V2⟩ := hV
    refine endsD (fn := Tryd.f21) (i := 2) (j := 3) rfl W B _ _ ((hW.block B (by omega)).trans RR1.out) _ _ _ _ ⟨.slice none 0 0, by rw [V0, V2], ?_, ?_⟩ _ h2 h3
    · rw [V1]; exact RowsL.nil _ _ _ (Nat.le_refl _)
    · rw [HB.out]
      exact ((BB1.out.trans (hW.mono (by omega))).setCell (p := ⟨B, 0, none⟩) (Nat.le_refl B) _).setCell (p := ⟨B, 1, none⟩) (Nat.le_refl B) _
  clear b1 R1 ht
  cases hp : sqB xss with
  | false =>
    have V : Hid (TriplesOfSquare_N xss = 0 ∧ TriplesOfSquare_L xss = [] ∧ TriplesOfSquare_C xss = 1) := by unfold Hid TriplesOfSquare_N TriplesOfSquare_L TriplesOfSquare_C; rw [hp]; exact ⟨rfl, rfl, rfl⟩
    rw [hp] at H0
    clear hp hv
    go_enter Tryd.func21, Tryd.ntmps21
    go_wp2_with fail
    try rw [hw1]
    refine H0.out.mono ?_
    rintro e w4 ⟨m, f, rfl, -, b4⟩
    have st := stores_newSq w4 (sqC m f)
    have s4 : B + 1 ≤ w4.heap.size := by have := b4.size; omega
    have B5 : Below (B + 1) w1 (w4.alloc (.cells (iar 101 (sqC m f)) 68)) := b4.alloc s4 _
    obtain ⟨w5, hw5⟩ : ∃ w5, w4.alloc (.cells (iar 101 (sqC m f)) 68) = w5 := ⟨_, rfl⟩
    rw [hw5] at B5 st
    obtain ⟨d0, d1, f0, f1⟩ := cells2 w5 B _ _ _ ((B5.block B (by omega)).trans RR1.out)
    have B5 := Lib.hid B5
    clear b4 s4
    go_wp2
    try rw [hw5]
    exact NO.out _ 1 B5.out V.out _ rfl rfl
  | true =>
    have S := of_sqB hp
    rw [hp] at H0
    have n10 := S.hi
    have IQ := S.inSq
    have V0 : TriplesOfSquare_N xss = if toB xss.length (cellF xss) then dxN xss.length ((tu2 (cellF xss) xss.length).map ptsN) else 0 := by unfold TriplesOfSquare_N; rw [hp]; rfl
    have V1 : TriplesOfSquare_L xss = if toB xss.length (cellF xss) then dxL ((tu2 (cellF xss) xss.length).map ptsN) else [] := by unfold TriplesOfSquare_L; rw [hp]; rfl
    have V2 : TriplesOfSquare_C xss = if toB xss.length (cellF xss) then dxC ((tu2 (cellF xss) xss.length).map ptsN) else 6 := by unfold TriplesOfSquare_C; rw [hp]; rfl
    obtain ⟨n, hn⟩ : ∃ n, xss.length = n := ⟨_, rfl⟩
    rw [hn] at H0 V0 V1 V2 n10 IQ
    obtain ⟨F, hF⟩ : ∃ F, sqF n (cellF xss) = F := ⟨_, rfl⟩
    have EF : ∀ x y, x < n → y < n → F x y = cellF xss x y := fun x y hx hy => by rw [← hF]; exact sqF_in _ hx hy
    have IQ2 : InSq n F := fun x y hx hy => by rw [EF x y hx hy]; exact IQ x y hx hy
    have E1 : allP n (isI F) = allP n (isI (cellF xss)) := by have := id_congr IQ2 EF 1; rw [id1, id1] at this; exact this
    have E8 : (allP n (isC F) && allP n (isS F)) = (allP n (isC (cellF xss)) && allP n (isS (cellF xss))) := by have := id_congr IQ2 EF 8; rw [id8, id8] at this; exact this
    have ET : tu2 F n = tu2 (cellF xss) n := tu2_congr EF n (Nat.le_refl _)
    have TV : toB n (cellF xss) = (!decide (n < 3) && (allP n (isI F) && (allP n (isC F) && allP n (isS F)))) := by unfold toB; rw [E1, E8]
    rw [← ET, TV] at V0 V1 V2
    rw [hF] at H0
    have HI := Lib.hid (fun W => iIdem n n10 W F IQ2)
    have HS := Lib.hid (fun W => iSymm n n10 W F IQ2)
    obtain ⟨i, hi⟩ : ∃ i, allP n (isI F) = i := ⟨_, rfl⟩
    obtain ⟨s, hs⟩ : ∃ s, (allP n (isC F) && allP n (isS F)) = s := ⟨_, rfl⟩
    simp only [hi] at HI V0 V1 V2
    simp only [hs] at HS V0 V1 V2
    have REF : Hid ((!decide (n < 3) && (i && s)) = false → TriplesOfSquare_N xss = 0 ∧ TriplesOfSquare_L xss = [] ∧ TriplesOfSquare_C xss = 6) := fun h => by rw [V0, V1, V2, h]; exact ⟨rfl, rfl, rfl⟩
    have YES : Hid ((!decide (n < 3) && (i && s)) = true → TriplesOfSquare_N xss = dxN n ((tu2 F n).map ptsN) ∧ TriplesOfSquare_L xss = dxL ((tu2 F n).map ptsN) ∧ TriplesOfSquare_C xss = dxC ((tu2 F n).map ptsN)) := fun h => by rw [V0, V1, V2, h]; exact ⟨rfl, rfl, rfl⟩
    have SM := Lib.hid (tu2_small n10 (fun x y hx hy => IQ2 x y hx hy) n (Nat.le_refl _))
    have LL := Lib.hid (tu2_len F n n10)
    have HU := Lib.hid (fun W sv h => itriplesUnder n n10 W F (fun x y hx hy => IQ2 x y hx hy) sv h)
    clear hp hv V0 V1 V2 hi hs E1 E8 ET TV EF IQ IQ2
    go_enter Tryd.func21, Tryd.ntmps21
    go_wp2_with fail
    try rw [hw1]
    refine H0.out.mono ?_
    rintro e w4 ⟨m, f, rfl, hmf2, b4⟩
    obtain ⟨hm1, hm2⟩ := hmf2 (by trivial)
    rw [hm1, hm2]
    clear hmf2 hm1 hm2
    have st := stores_newSq w4 (sqC n F)
    have s4 : B + 1 ≤ w4.heap.size := by have := b4.size; omega
    have b5 : Below (B + 1) w1 (w4.alloc (.cells (iar 101 (sqC n F)) 68)) := b4.alloc s4 _
    have A5 : SqAt (w4.alloc (.cells (iar 101 (sqC n F)) 68)) w4.heap.size n F := heap_alloc_new _ _
    have z5 := World.size_alloc w4 (.cells (iar 101 (sqC n F)) 68)
    obtain ⟨w5, hw5⟩ : ∃ w5, w4.alloc (.cells (iar 101 (sqC n F)) 68) = w5 := ⟨_, rfl⟩
    obtain ⟨g, hg⟩ : ∃ g, w4.heap.size = g := ⟨_, rfl⟩
    rw [hw5] at st b5 A5 z5
    rw [hg] at st A5 s4 z5
    have X5 := Lib.hid A5
    have B5 := Lib.hid b5
    have KO : Hid (∀ W, Below (g + 1) w5 W → SqAt W g n F) := fun W h => SqAt.below A5 h (Nat.lt_succ_self g)
    have or5 := SqAt.order A5
    clear b4 b5 A5
    by_cases c : n < 3
    · have k1 : decide (n < 3) = true := by simpa using c
      have k1' : decide ((n : Int) < 3) = true := decide_eq_true (by omega)
      have RV := Lib.hid (REF.out (by rw [decide_eq_true c]; rfl))
      obtain ⟨d0, d1, f0, f1⟩ := cells2 w5 B _ _ _ ((B5.out.block B (by omega)).trans RR1.out)
      go_wp2
      try rw [hw5]
      exact NO.out _ 6 B5.out RV.out _ rfl rfl
    have k1 : decide (n < 3) = false := by simpa using c
    have k1' : decide ((n : Int) < 3) = false := decide_eq_false (by omega)
    have c := Lib.hid c
    go_wp2_with fail
    try rw [hw5]
    refine wp_load_row 68 (.tmp 4) rfl _ rfl _ _ _ _ X5.out Tryd.underlying68 rfl (by rw [iar_size]; exact Tryd.infoSq) ?_
    go_wp2_with fail
    refine (HI.out _).mono ?_
    rintro e w6 ⟨rfl, b6⟩
    rw [z5] at b6
    have B6 := Lib.hid b6
    clear b6 hw5
    cases i with
    | false =>
      have RV := Lib.hid (REF.out (by rw [Bool.false_and, Bool.and_false]))
      have B7 : Hid (Below (B + 1) w1 w6) := B5.out.trans (B6.out.mono (by omega))
      obtain ⟨d0, d1, f0, f1⟩ := cells2 w6 B _ _ _ ((B7.out.block B (by omega)).trans RR1.out)
      go_wp2
      exact NO.out _ 6 B7.out RV.out _ rfl rfl
    | true =>
      have X6 := Lib.hid (KO.out w6 B6.out)
      go_wp2_with fail
      refine wp_load_row 68 (.tmp 4) rfl _ rfl _ _ _ _ X6.out Tryd.underlying68 rfl (by rw [iar_size]; exact Tryd.infoSq) ?_
      go_wp2_with fail
      refine (HS.out _).mono ?_
      rintro e w7 ⟨rfl, b7⟩
      have s6 := B6.out.size
      have B7 : Hid (Below (g + 1) w5 w7) := B6.out.trans (b7.mono (by omega))
      clear b7
      have B8 : Hid (Below (B + 1) w1 w7) := B5.out.trans (B7.out.mono (by omega))
      cases s with
      | false =>
        have RV := Lib.hid (REF.out (by rw [Bool.and_false, Bool.and_false]))
        obtain ⟨d0, d1, f0, f1⟩ := cells2 w7 B _ _ _ ((B8.out.block B (by omega)).trans RR1.out)
        go_wp2
        exact NO.out _ 6 B8.out RV.out _ rfl rfl
      | true =>
        have YV := Lib.hid (YES.out (by rw [decide_eq_false c.out]; rfl))
        have KOR : Hid (∀ W, Below (g + 1) w5 W → W.cell? ⟨g, 0, none⟩ = some (.int .i64 n)) := fun W h => SqAt.order (KO.out W h)
        have or7 := KOR.out w7 B7.out
        have s7 : Hid (g + 1 ≤ w7.heap.size) := by have := B7.out.size; unfold Hid; omega
        have hcf : ∀ args W, (callFunc 50 args).run Tryd.prog W = .ok (.enter 50 args) W := enters_of Tryd.func50 (by kernel_rfl) rfl
        have HU7 := Lib.hid (fun W (h : Below (g + 1) w5 W) => HU.out W (.func (.func 50) #[] #[.pointer (some ⟨g, 0, none⟩)]) ⟨_, _, _, rfl, hcf, fun W' x y hW hx hy => iTO1 W' g n n10 F (KO.out W' (h.trans (hW.mono (by have := h.size; omega)))) x y hx hy⟩)
        have HD : Hid (∀ (W : World) (Q : Nat) (u : Value), Us W Q u (tu2 F n) → B + 1 ≤ Q → Q ≤ W.heap.size → Below (B + 1) w1 W → Calls Tryd.prog 29 #[.int .i64 n, u] W fun e w' => ∃ z, e = .returned (.tuple #[.agg #[.int .i64 (TriplesOfSquare_N xss), z], .int .i64 (TriplesOfSquare_C xss)]) ∧ RowsL w' W.heap.size w'.heap.size z (TriplesOfSquare_L xss) ∧ Below Q W w') := fun W Q u hU hQ hs hb => by
          have H := idesU (n : Int) W Q u (tu2 F n) hU SM.out (by have := LL.out; omega) (by omega) hs (TB.out.below (BB1.out.trans (hb.mono (by omega))) hpos)
          rw [YV.out.1, YV.out.2.1, YV.out.2.2]
          exact H
        have D0 : Hid (Below (g + 1) w5 w7.drew) := B7.out.drew
        have or7' := KOR.out w7.drew D0.out
        clear or5 or7
        go_wp2
        refine wp_region_held_drew (S := fun w' => w'.cell? ⟨g, 0, none⟩ = some (.int .i64 n)) (by kernel_rfl) or7' (fun hHeld => ?_)
        refine wpAnyH_take (i := 0) (oi := { dst := some 28, op := Op.fieldAddr 68 (Operand.tmp 4) 0, type := 0, pos := "l11_triples.go:214", after := #[], guard := none }) (v := ?_) rfl (by kernel_rfl) (by kernel_rfl) (by kernel_rfl) (fun _ _ _ h => h) (Or.inl ⟨by rfl, ?_⟩) (by assumption) ?_
        rotate_left
        · intro w hSw; (try dsimp only at hSw); go_simp
          try with_reducible rfl
        simp only [Act.put, List.setIfInBounds_toArray, List.set_cons_zero, List.set_cons_succ]
        refine wpAnyH_take (i := 1) (oi := { dst := some 29, op := Op.load 2 (Operand.tmp 28), type := 2, pos := "l11_triples.go:214", after := #[{ on := 0, ground := Ground.data }], guard := none }) (v := ?_) rfl (by kernel_rfl) (by kernel_rfl) (by kernel_rfl) (fun _ _ _ h => h) (Or.inl ⟨by rfl, ?_⟩) (by assumption) ?_
        rotate_left
        · intro w hSw; (try dsimp only at hSw); go_simp
          try with_reducible rfl
        simp only [Act.put, List.setIfInBounds_toArray, List.set_cons_zero, List.set_cons_succ]
        refine wpAnyH_take (i := 2) (oi := { dst := some 30, op := Op.fieldAddr 68 (Operand.tmp 4) 0, type := 0, pos := "l11_triples.go:214", after := #[], guard := none }) (v := ?_) rfl (by kernel_rfl) (by kernel_rfl) (by kernel_rfl) (fun _ _ _ h => h) (Or.inl ⟨by rfl, ?_⟩) (by assumption) ?_
        rotate_left
        · intro w hSw; (try dsimp only at hSw); go_simp
          try with_reducible rfl
        simp only [Act.put, List.setIfInBounds_toArray, List.set_cons_zero, List.set_cons_succ]
        refine wpAnyH_take (i := 3) (oi := { dst := some 31, op := Op.load 2 (Operand.tmp 30), type := 2, pos := "l11_triples.go:214", after := #[{ on := 2, ground := Ground.data }], guard := none }) (v := ?_) rfl (by kernel_rfl) (by kernel_rfl) (by kernel_rfl) (fun _ _ _ h => h) (Or.inl ⟨by rfl, ?_⟩) (by assumption) ?_
        rotate_left
        · intro w hSw; (try dsimp only at hSw); go_simp
          try with_reducible rfl
        simp only [Act.put, List.setIfInBounds_toArray, List.set_cons_zero, List.set_cons_succ]
        refine wpAnyH_take (i := 4) (oi := { dst := some 32, op := Op.makeFunc (Fn.func 50) #[] #[Operand.tmp 4], type := 73, pos := "l11_triples.go:214", after := #[], guard := none }) (v := ?_) rfl (by kernel_rfl) (by kernel_rfl) (by kernel_rfl) (fun _ _ _ h => h) (Or.inl ⟨by rfl, ?_⟩) (by assumption) ?_
        rotate_left
        · intro w hSw; (try dsimp only at hSw); go_simp
          try with_reducible rfl
        simp only [Act.put, List.setIfInBounds_toArray, List.set_cons_zero, List.set_cons_succ]
        refine wpAnyH_ready (rs := [5]) (by kernel_rfl) (by simp) ?_
        refine AllReadyH.cons rfl (fun K' hK' => ?_) AllReadyH.nil
        go_simp
        go_wp2_with fail
        refine (HU7.out _ D0.out).mono ?_
        rintro e w8 ⟨u8, rfl, hU8, b8⟩
        have D1 : Hid (Below (g + 1) w5 w8) := D0.out.trans (b8.mono (by have := s7.out; exact this))
        have z8 : g + 1 ≤ w8.heap.size := by have := D1.out.size; omega
        have E8 : Hid (Below (B + 1) w1 w8) := B5.out.trans (D1.out.mono (by omega))
        have HD8 := Lib.hid (HD.out w8 w7.drew.heap.size u8 hU8 (by have : w7.drew.heap.size = w7.heap.size := rfl; have := s7.out; omega) b8.size E8.out)
        have Z8 : Hid (g + 1 ≤ w7.drew.heap.size) := s7.out
        refine hK'.out _ _ (KOR.out _ D1.out) (fun hHeld => ?_)
        clear hK' K' hU8 b8
        refine wpAnyH_ready (rs := [6]) (by kernel_rfl) (by simp) ?_
        refine AllReadyH.cons rfl (fun K' hK' => ?_) AllReadyH.nil
        go_simp
        go_wp2_with fail
        refine HD8.out.mono ?_
        rintro e w9 ⟨z, rfl, hL, hO⟩
        have D2 : Hid (Below (g + 1) w5 w9) := D1.out.trans (hO.mono Z8.out)
        have E9 : Hid (Below (B + 1) w1 w9) := B5.out.trans (D2.out.mono (by omega))
        obtain ⟨ay, ly, cy, rfl⟩ : ∃ a l c, z = .slice a l c := by obtain ⟨a, c, e, -⟩ := hL.at.shape; exact ⟨a, _, c, e⟩
        have RX : w9.heap[B]? = some (.cells #[.int .i64 0, .slice none 0 0] 24 (0, 0)) := (E9.out.block B (by omega)).trans RR1.out
        obtain ⟨d0, d1, f0, f1⟩ := cells2 w9 B _ _ _ RX
        have LX := Lib.hid hL
        have RX := Lib.hid RX
        have z8' := Lib.hid z8
        obtain ⟨qn, hqn⟩ : ∃ q, TriplesOfSquare_N xss = q := ⟨_, rfl⟩
        obtain ⟨qc, hqc⟩ : ∃ q, TriplesOfSquare_C xss = q := ⟨_, rfl⟩
        rw [hqn, hqc]
        refine hK'.out _ _ (KOR.out _ D2.out) (fun hHeld => ?_)
        clear hK' K' hL hO
        refine wpAnyH_take (i := 7) (oi := { dst := some 35, op := Op.extract (Operand.tmp 34) 0, type := 24, pos := "l11_triples.go:214", after := #[{ on := 6, ground := Ground.data }], guard := none }) (v := ?_) rfl (by kernel_rfl) (by kernel_rfl) (by kernel_rfl) (fun _ _ _ h => h) (Or.inl ⟨by rfl, ?_⟩) (by assumption) ?_
        rotate_left
        · intro w hSw; (try dsimp only at hSw); go_simp
          try with_reducible rfl
        simp only [Act.put, List.setIfInBounds_toArray, List.set_cons_zero, List.set_cons_succ]
        refine wpAnyH_take (i := 8) (oi := { dst := some 36, op := Op.extract (Operand.tmp 34) 1, type := 2, pos := "l11_triples.go:214", after := #[{ on := 6, ground := Ground.data }], guard := none }) (v := ?_) rfl (by kernel_rfl) (by kernel_rfl) (by kernel_rfl) (fun _ _ _ h => h) (Or.inl ⟨by rfl, ?_⟩) (by assumption) ?_
        rotate_left
        · intro w hSw; (try dsimp only at hSw); go_simp
          try with_reducible rfl
        simp only [Act.put, List.setIfInBounds_toArray, List.set_cons_zero, List.set_cons_succ]
        have KS : Hid (((w9.setCell ⟨B, 0, none⟩ (.int .i64 qn)).setCell ⟨B, 1, none⟩ (.slice ay ly cy)).cell? ⟨g, 0, none⟩ = some (.int .i64 n)) := by
          unfold Hid
          rw [World.cell?_setCell_far _ _ _ _ (show B ≠ g by omega), World.cell?_setCell_far _ _ _ _ (show B ≠ g by omega)]
          exact KOR.out _ D2.out
        refine wpAnyH_ready (rs := [9]) (by kernel_rfl) (by simp) ?_
        refine AllReadyH.cons rfl (fun K' hK' => ?_) AllReadyH.nil
        go_simp
        refine hK'.out _ _ KS.out (fun hHeld => ?_)
        clear hK' K'
        refine wpAnyH_take (i := 10) (oi := { dst := some 3, op := Op.assign (Operand.tmp 36), type := 2, pos := "l11_triples.go:214", after := #[{ on := 8, ground := Ground.data }, { on := 9, ground := Ground.chain }, { on := 0, ground := Ground.phase }, { on := 1, ground := Ground.phase }, { on := 2, ground := Ground.phase }, { on := 3, ground := Ground.phase }, { on := 4, ground := Ground.phase }, { on := 5, ground := Ground.phase }, { on := 6, ground := Ground.phase }, { on := 7, ground := Ground.phase }, { on := 8, ground := Ground.phase }, { on := 9, ground := Ground.phase }], guard := none }) (v := ?_) rfl (by kernel_rfl) (by kernel_rfl) (by kernel_rfl) (fun _ _ _ h => h) (Or.inl ⟨by rfl, ?_⟩) (by assumption) ?_
        rotate_left
        · intro w hSw; (try dsimp only at hSw); go_simp
          try with_reducible rfl
        simp only [Act.put, List.setIfInBounds_toArray, List.set_cons_zero, List.set_cons_succ]
        refine wpAnyH_done (by kernel_rfl) ?_ _
        clear hHeld
        go_wp2
        refine endsD (fn := Tryd.f21) (i := 2) (j := 3) rfl w9 B _ _ RX.out _ _ _ _ ⟨.slice ay ly cy, by rw [hqn, hqc]; rfl, ?_, ?_⟩ _ rfl rfl
        · exact (RowsL.off2 LX.out (show B < w8.heap.size by have := z8'.out; omega) _ _).mono (by have := HB.out; have := z8'.out; omega) (by simp [World.setCell]) (Nat.le_refl _)
        · rw [HB.out]
          exact ((BB1.out.trans (E9.out.mono (by omega))).setCell (p := ⟨B, 0, none⟩) (Nat.le_refl B) _).setCell (p := ⟨B, 1, none⟩) (Nat.le_refl B) _

/-! TriplesOfSquare: the model. -/
section
open Go.RowKit Go.Shelf
set_option linter.unusedVariables false
set_option linter.unusedSimpArgs false

def tg (f : Nat → Nat → Int) (x y : Nat) : List (List Int) := if x < y ∧ (y : Int) < f x y then [[(x : Int), (y : Int), f x y]] else []
def ml1 (f : Nat → Nat → Int) (x : Nat) : Nat → List (List Int)
  | 0 => []
  | y + 1 => ml1 f x y ++ tg f x y
def ml2 (f : Nat → Nat → Int) (b : Nat) : Nat → List (List Int)
  | 0 => []
  | x + 1 => ml2 f b x ++ ml1 f x b
def mc1 (f : Nat → Nat → Int) (y : Nat) : Nat → List (List Int)
  | 0 => []
  | x + 1 => mc1 f y x ++ tg f x y
def mc2 (f : Nat → Nat → Int) (a : Nat) : Nat → List (List Int)
  | 0 => []
  | y + 1 => mc2 f a y ++ mc1 f y a
theorem tg_yes {f : Nat → Nat → Int} {x y : Nat} (h : x < y) (h2 : (y : Int) < f x y) : tg f x y = [[(x : Int), (y : Int), f x y]] := if_pos ⟨h, h2⟩
theorem tg_no {f : Nat → Nat → Int} {x y : Nat} (h : ¬ (x < y ∧ (y : Int) < f x y)) : tg f x y = [] := if_neg h
theorem four (A B C D : List (List Int)) : ((A ++ B) ++ (C ++ D)).Perm ((A ++ C) ++ (B ++ D)) := by
  rw [List.append_assoc, List.append_assoc]
  refine List.Perm.append_left A ?_
  rw [← List.append_assoc, ← List.append_assoc]
  exact List.Perm.append_right D List.perm_append_comm
theorem mc2_succ (f : Nat → Nat → Int) (a : Nat) : ∀ b, (mc2 f (a + 1) b).Perm (mc2 f a b ++ ml1 f a b)
  | 0 => List.Perm.refl _
  | b + 1 => by
    show (mc2 f (a + 1) b ++ (mc1 f b a ++ tg f a b)).Perm ((mc2 f a b ++ mc1 f b a) ++ (ml1 f a b ++ tg f a b))
    exact ((mc2_succ f a b).append_right _).trans (four _ _ _ _)
theorem mc2_zero (f : Nat → Nat → Int) : ∀ b, mc2 f 0 b = []
  | 0 => rfl
  | b + 1 => by rw [mc2, mc2_zero f b]; rfl
theorem ml_perm (f : Nat → Nat → Int) (b : Nat) : ∀ a, (ml2 f b a).Perm (mc2 f a b)
  | 0 => by rw [mc2_zero]; exact List.Perm.refl _
  | a + 1 => ((ml_perm f b a).append_right (ml1 f a b)).trans (mc2_succ f a b).symm
theorem ml1_low (f : Nat → Nat → Int) (x : Nat) : ∀ y, y ≤ x + 1 → ml1 f x y = []
  | 0, _ => rfl
  | y + 1, h => by rw [ml1, ml1_low f x y (by omega), tg_no (by omega)]; rfl
theorem mc1_high (f : Nat → Nat → Int) (y : Nat) : ∀ d, mc1 f y (y + d) = mc1 f y y
  | 0 => rfl
  | d + 1 => by
    show mc1 f y (y + d) ++ tg f (y + d) y = _
    rw [mc1_high f y d, tg_no (by omega), List.append_nil]
theorem tri_all : allN 10 (fun z => allN z fun y => allN y fun x => decide (ptsN (trip x y z) = [(x : Int), (y : Int), (z : Int)])) = true := by kernel_rfl
theorem tri_pts {x y z : Nat} (h1 : x < y) (h2 : y < z) (h3 : z < 10) : ptsN (trip x y z) = [(x : Int), (y : Int), (z : Int)] :=
  of_decide_eq_true (allN_at (allN_at (allN_at tri_all z h3) y h2) x h1)
theorem tu1_map {n : Nat} (hn : n ≤ 10) {f : Nat → Nat → Int} (h : ∀ x y, x < n → y < n → 0 ≤ f x y ∧ f x y < n) {y : Nat} (hy : y < n) : ∀ x, x ≤ y → (tu1 f y x).map ptsN = mc1 f y x
  | 0, _ => rfl
  | x + 1, hx => by
    rw [tu1, mc1, List.map_append, tu1_map hn h hy x (by omega)]
    by_cases c : (y : Int) < f x y
    · have i := h x y (by omega) hy
      rw [if_pos c, tg_yes (by omega) c]
      show mc1 f y x ++ [ptsN (trip x y (f x y).toNat)] = _
      rw [tri_pts (by omega) (by omega) (by omega), Int.toNat_of_nonneg i.1]
    · rw [if_neg c, tg_no (by omega)]; rfl
theorem tu2_map {n : Nat} (hn : n ≤ 10) {f : Nat → Nat → Int} (h : ∀ x y, x < n → y < n → 0 ≤ f x y ∧ f x y < n) : ∀ y, y ≤ n → (tu2 f y).map ptsN = mc2 f n y
  | 0, _ => rfl
  | y + 1, hy => by
    rw [tu2, mc2, List.map_append, tu2_map hn h y (by omega), tu1_map hn h (show y < n by omega) y (Nat.le_refl _)]
    have := mc1_high f y (n - y)
    rw [show y + (n - y) = n by omega] at this
    rw [this]
theorem mc1_three (f : Nat → Nat → Int) (y : Nat) : ∀ x, ∀ r ∈ mc1 f y x, r.length = 3
  | 0, r, hr => by cases hr
  | x + 1, r, hr => by
    rw [mc1, List.mem_append] at hr
    rcases hr with hr | hr
    · exact mc1_three f y x r hr
    · unfold tg at hr
      split at hr
      · rw [List.mem_singleton] at hr; rw [hr]; rfl
      · cases hr
theorem mc2_three (f : Nat → Nat → Int) (a : Nat) : ∀ y, ∀ r ∈ mc2 f a y, r.length = 3
  | 0, r, hr => by cases hr
  | y + 1, r, hr => by
    rw [mc2, List.mem_append] at hr
    rcases hr with hr | hr
    · exact mc2_three f a y r hr
    · exact mc1_three f y a r hr
theorem ml1_len (f : Nat → Nat → Int) (x : Nat) : ∀ y, (ml1 f x y).length ≤ y
  | 0 => Nat.le_refl _
  | y + 1 => by
    have := ml1_len f x y
    rw [ml1, List.length_append]
    unfold tg
    split
    · simp only [List.length_cons, List.length_nil]; omega
    · simp only [List.length_nil]; omega
theorem ml2_len (f : Nat → Nat → Int) (b : Nat) (hb : b ≤ 10) : ∀ x, (ml2 f b x).length ≤ 10 * x
  | 0 => Nat.le_refl _
  | x + 1 => by
    have a := ml2_len f b hb x
    have c := ml1_len f x b
    rw [ml2, List.length_append]; omega
theorem ml_len (f : Nat → Nat → Int) (n : Nat) (hn : n ≤ 10) {x y : Nat} (hx : x ≤ n) (hy : y ≤ n) : (ml2 f n x ++ ml1 f x y).length ≤ 200 := by
  have a := ml2_len f n hn x
  have b := ml1_len f x y
  rw [List.length_append]; omega
theorem to_fin {n : Nat} (hn : n ≤ 10) {f : Nat → Nat → Int} (h : ∀ x y, x < n → y < n → 0 ≤ f x y ∧ f x y < n) (v : Int) :
    dxN v ((tu2 f n).map ptsN) = v ∧ dxL ((tu2 f n).map ptsN) = sortL (ml2 f n n) ∧ dxC ((tu2 f n).map ptsN) = 0 ∧ (ml2 f n n).length ≤ 1000 ∧ (∀ i, i < (ml2 f n n).length → ((ml2 f n n).getD i []).length ≤ 1048576) ∧ tot (ml2 f n n) ≤ 3000 := by
  have P := ml_perm f n n
  have L : (mc2 f n n).length ≤ 100 := by
    rw [← tu2_map hn h n (Nat.le_refl _), List.length_map]
    have := tu2_len f n hn; omega
  have A : ∀ r ∈ ml2 f n n, r.length = 3 := fun r hr => mc2_three f n n r (P.mem_iff.1 hr)
  rw [tu2_map hn h n (Nat.le_refl _)]
  have e : anyE (mc2 f n n) = false := anyE_false (fun i hi hc => by
    have hm : (mc2 f n n).getD i [] ∈ mc2 f n n := by rw [List.getD_eq_getElem?_getD, List.getElem?_eq_getElem hi]; exact List.getElem_mem _
    have := mc2_three f n n _ hm
    rw [hc] at this; simp at this)
  have k : ¬ 128 < (mc2 f n n).length := by omega
  have LM := P.length_eq
  refine ⟨?_, ?_, ?_, by omega, fun i hi => ?_, ?_⟩
  · unfold dxN; rw [e, if_neg k]; rfl
  · unfold dxL; rw [e, if_neg k]
    show sortL (mc2 f n n) = _
    exact (sortL_of ((sortL_perm _).trans P) (sortL_ord _)).symm
  · unfold dxC; rw [e, if_neg k]; rfl
  · have := A ((ml2 f n n).getD i []) (by rw [List.getD_eq_getElem?_getD, List.getElem?_eq_getElem hi]; exact List.getElem_mem _)
    omega
  · have : ∀ M : List (List Int), (∀ r ∈ M, r.length = 3) → tot M = 3 * M.length := fun M => by
      induction M with
      | nil => intro _; rfl
      | cons r M ih => intro h; rw [tot_cons, h r (List.mem_cons_self ..), ih (fun x hx => h x (List.mem_cons_of_mem _ hx)), List.length_cons]; omega
    rw [this _ A]; omega

set_option maxRecDepth 100000 in
set_option maxHeartbeats 4000000 in
theorem sTriplesOfSquare (xss : List (List Int)) (w : World) (v : Value) (hv : RowsAt w v xss) :
    Calls Tryd.prog 19 #[v] w fun e w' => ∃ z, e = .returned (.tuple #[.agg #[.int .i64 (TriplesOfSquare_N xss), z], .int .i64 (TriplesOfSquare_C xss)]) ∧ RowsL w' w.heap.size w'.heap.size z (TriplesOfSquare_L xss) ∧ Below w.heap.size w w' := by
  obtain ⟨B, hB⟩ : ∃ B, w.heap.size = B := ⟨_, rfl⟩
  obtain ⟨w1, hw1⟩ : ∃ w1, w.alloc (.cells #[.int .i64 0, .slice none 0 0] 24) = w1 := ⟨_, rfl⟩
  have z1 : w1.heap.size = B + 1 := by rw [← hw1, World.size_alloc, hB]
  have b1 : Below B w w1 := by rw [← hw1]; exact (Below.refl _ _).alloc (by omega) _
  have R1 : w1.heap[B]? = some (.cells #[.int .i64 0, .slice none 0 0] 24 (0, 0)) := by rw [← hw1, ← hB]; exact heap_alloc_new _ _
  have hv1 := hv.below b1 (by omega)
  have H0 := Lib.hid (sSq w1 v xss hv1)
  have HB := Lib.hid hB
  have BB1 := Lib.hid b1
  have RR1 := Lib.hid R1
  rw [z1] at H0
  -- what ends a refusal
  have NO : Hid (∀ (W : World) (c : Int), Below (B + 1) w1 W → TriplesOfSquare_N xss = 0 ∧ TriplesOfSquare_L xss = [] ∧ TriplesOfSquare_C xss = c → ∀ (tmps : Array Value), tmps.getD 2 undef = .pointer (some ⟨B, 0, none⟩) → tmps.getD 3 undef = .int .i64 c →
      bodyPost Tryd.prog Tryd.f19 (fun e w' => ∃ z, e = .returned (.tuple #[.agg #[.int .i64 (TriplesOfSquare_N xss), z], .int .i64 (TriplesOfSquare_C xss)]) ∧ RowsL w' w.heap.size w'.heap.size z (TriplesOfSquare_L xss) ∧ Below w.heap.size w w') Exit.ret { tmps := tmps, defers := [] } ((W.setCell ⟨B, 0, none⟩ (.int .i64 0)).setCell ⟨B, 1, none⟩ (.slice none 0 0))) := fun W c hW hV tmps h2 h3 => by
    obtain ⟨V0, V1, V2⟩ := hV
    refine endsD (fn := Tryd.f19) (i := 2) (j := 3) rfl W B _ _ ((hW.block B (by omega)).trans RR1.out) _ _ _ _ ⟨.slice none 0 0, by rw [V0, V2], ?_, ?_⟩ _ h2 h3
    · rw [V1]; exact RowsL.nil _ _ _ (Nat.le_refl _)
    · rw [HB.out]
      exact ((BB1.out.trans (hW.mono (by omega))).setCell (p := ⟨B, 0, none⟩) (Nat.le_refl B) _).setCell (p := ⟨B, 1, none⟩) (Nat.le_refl B) _
  clear b1 R1 hv
  cases hp : sqB xss with
  | false =>
    have V : Hid (TriplesOfSquare_N xss = 0 ∧ TriplesOfSquare_L xss = [] ∧ TriplesOfSquare_C xss = 1) := by unfold Hid TriplesOfSquare_N TriplesOfSquare_L TriplesOfSquare_C; rw [hp]; exact ⟨rfl, rfl, rfl⟩
    obtain ⟨va, vk, rfl, -, -⟩ := hv1.cellsOf
    rw [hp] at H0
    clear hp hv1
    go_enter Tryd.func19, Tryd.ntmps19
    go_wp2_with fail
    try rw [hw1]
    refine H0.out.mono ?_
    rintro e w4 ⟨rfl, b4⟩
    obtain ⟨d0, d1, f0, f1⟩ := cells2 w4 B _ _ _ ((b4.block B (by omega)).trans RR1.out)
    have B4 := Lib.hid b4
    clear b4
    go_wp2
    exact NO.out _ 1 B4.out V.out _ rfl rfl
  | true =>
    have S := of_sqB hp
    rw [hp] at H0
    have n10 := S.hi
    have nlo := S.lo
    have IQ := S.inSq
    have RL := S.rowLen
    have V0 : TriplesOfSquare_N xss = if toB xss.length (cellF xss) then dxN xss.length ((tu2 (cellF xss) xss.length).map ptsN) else 0 := by unfold TriplesOfSquare_N; rw [hp]; rfl
    have V1 : TriplesOfSquare_L xss = if toB xss.length (cellF xss) then dxL ((tu2 (cellF xss) xss.length).map ptsN) else [] := by unfold TriplesOfSquare_L; rw [hp]; rfl
    have V2 : TriplesOfSquare_C xss = if toB xss.length (cellF xss) then dxC ((tu2 (cellF xss) xss.length).map ptsN) else 6 := by unfold TriplesOfSquare_C; rw [hp]; rfl
    obtain ⟨n, hn⟩ : ∃ n, xss.length = n := ⟨_, rfl⟩
    rw [hn] at V0 V1 V2 n10 nlo IQ RL
    have HH := Lib.hid (fun W (h : Below (B + 1) w1 W) k k1 k8 => sHolds W v xss n hn nlo n10 RL (hv1.below h (by omega)) IQ k k1 k8)
    obtain ⟨g, off, cp, rfl, K⟩ := hv1.look2 hn RL nlo
    rw [z1] at K
    have HK := Lib.hid K
    obtain ⟨F, hF⟩ : ∃ F, cellF xss = F := ⟨_, rfl⟩
    simp only [hF] at HH V0 V1 V2 HK
    rw [hF] at IQ
    have H1 := Lib.hid (fun W h => HH.out W h 1 (by omega) (by omega))
    have H8 := Lib.hid (fun W h => HH.out W h 8 (by omega) (by omega))
    unfold Hid at H1 H8
    simp only [id1] at H1
    simp only [id8] at H8
    obtain ⟨FN, FL, FC, FS, FR, -⟩ := to_fin n10 (fun x y hx hy => IQ x y hx hy) (n : Int)
    rw [FN] at V0
    rw [FL] at V1
    rw [FC] at V2
    have TV : toB n F = (!decide (n < 3) && (allP n (isI F) && (allP n (isC F) && allP n (isS F)))) := rfl
    rw [TV] at V0 V1 V2
    obtain ⟨i, hi⟩ : ∃ i, allP n (isI F) = i := ⟨_, rfl⟩
    obtain ⟨s, hs⟩ : ∃ s, (allP n (isC F) && allP n (isS F)) = s := ⟨_, rfl⟩
    simp only [hi] at H1 V0 V1 V2
    simp only [hs] at H8 V0 V1 V2
    have H1 := Lib.hid H1
    have H8 := Lib.hid H8
    have REF : Hid ((!decide (n < 3) && (i && s)) = false → TriplesOfSquare_N xss = 0 ∧ TriplesOfSquare_L xss = [] ∧ TriplesOfSquare_C xss = 6) := fun h => by rw [V0, V1, V2, h]; exact ⟨rfl, rfl, rfl⟩
    have YES : Hid ((!decide (n < 3) && (i && s)) = true → TriplesOfSquare_N xss = n ∧ TriplesOfSquare_L xss = sortL (ml2 F n n) ∧ TriplesOfSquare_C xss = 0) := fun h => by rw [V0, V1, V2, h]; exact ⟨rfl, rfl, rfl⟩
    have HSo := Lib.hid (fun W u (h : RowsAt W u (ml2 F n n)) => sSort (ml2 F n n) FS FR W u h)
    have L1 : Hid (∀ x y, x ≤ n → y ≤ n → (ml2 F n x ++ ml1 F x y).length ≤ 200) := fun x y hx hy => ml_len F n n10 hx hy
    have T1 : Hid (∀ x y z, F x y = z → x < y → (y : Int) < z → ml1 F x (y + 1) = ml1 F x y ++ [[(x : Int), (y : Int), z]]) := fun x y z h1 h2 h3 => by rw [ml1, tg_yes h2 (by rw [h1]; exact h3), h1]
    have T2 : Hid (∀ x y z, F x y = z → ¬ (y : Int) < z → ml1 F x (y + 1) = ml1 F x y) := fun x y z h1 h2 => by rw [ml1, tg_no (by rw [h1]; omega), List.append_nil]
    have T3 : Hid (∀ x, ml2 F n (x + 1) = ml2 F n x ++ ml1 F x n) := fun x => rfl
    have T4 : Hid (∀ x, ml1 F x (x + 1) = []) := fun x => ml1_low F x _ (Nat.le_refl _)
    have wn := IntWalk.i64_in (n : Int) (by omega)
    obtain ⟨g1, hg1⟩ : ∃ q, ml1 F = q := ⟨_, rfl⟩
    obtain ⟨g2, hg2⟩ : ∃ q, ml2 F n = q := ⟨_, rfl⟩
    have T0 : Hid (g2 0 = []) := by rw [← hg2]; rfl
    simp only [hg1, hg2] at YES HSo L1 T1 T2 T3 T4
    clear hp hv1 V0 V1 V2 hi hs TV IQ FN FL FC FS FR K hn RL hF HH hg1 hg2 S
    go_enter Tryd.func19, Tryd.ntmps19
    go_wp2_with fail
    try rw [hw1]
    refine H0.out.mono ?_
    rintro e w4 ⟨rfl, b4⟩
    have B4 := Lib.hid b4
    clear b4 hw1
    go_wp2_with fail
    refine (H1.out _ B4.out).mono ?_
    rintro e w5 ⟨rfl, b5⟩
    have s4 : B + 1 ≤ w4.heap.size := by have := B4.out.size; omega
    have B5 : Hid (Below (B + 1) w1 w5) := B4.out.trans (b5.mono s4)
    clear b5
    cases i with
    | false =>
      have RV := Lib.hid (REF.out (by rw [Bool.false_and, Bool.and_false]))
      obtain ⟨d0, d1, f0, f1⟩ := cells2 w5 B _ _ _ ((B5.out.block B (by omega)).trans RR1.out)
      go_wp2
      exact NO.out _ 6 B5.out RV.out _ rfl rfl
    | true =>
      go_wp2_with fail
      refine (H8.out _ B5.out).mono ?_
      rintro e w6 ⟨rfl, b6⟩
      have s5 : B + 1 ≤ w5.heap.size := by have := B5.out.size; omega
      have B6 : Hid (Below (B + 1) w1 w6) := B5.out.trans (b6.mono s5)
      clear b6
      cases s with
      | false =>
        have RV := Lib.hid (REF.out (by rw [Bool.and_false, Bool.and_false]))
        obtain ⟨d0, d1, f0, f1⟩ := cells2 w6 B _ _ _ ((B6.out.block B (by omega)).trans RR1.out)
        go_wp2
        exact NO.out _ 6 B6.out RV.out _ rfl rfl
      | true =>
        by_cases c : n < 3
        · have k1 : decide (n < 3) = true := by simpa using c
          have k1' : decide ((n : Int) < 3) = true := decide_eq_true (by omega)
          have RV := Lib.hid (REF.out (by rw [decide_eq_true c]; rfl))
          obtain ⟨d0, d1, f0, f1⟩ := cells2 w6 B _ _ _ ((B6.out.block B (by omega)).trans RR1.out)
          go_wp2
          exact NO.out _ 6 B6.out RV.out _ rfl rfl
        have k1 : decide (n < 3) = false := by simpa using c
        have k1' : decide ((n : Int) < 3) = false := decide_eq_false (by omega)
        have YV := Lib.hid (YES.out (by rw [decide_eq_false c]; rfl))
        have s6 : B + 1 ≤ w6.heap.size := by have := B6.out.size; omega
        obtain ⟨w7, hw7⟩ : ∃ w7, w6.alloc (.cells #[] 41) = w7 := ⟨_, rfl⟩
        obtain ⟨p6, hp6⟩ : ∃ p, w6.heap.size = p := ⟨_, rfl⟩
        have M0 : Hid (RowsL w7 (B + 1) w7.heap.size (.slice (some ⟨p6, 0, none⟩) 0 0) (g2 0)) := by
          have := RowsL.made w6 (B + 1) 0 #[] s6 (by decide) rfl
          rw [← World.size_alloc w6 (.cells #[] 41), hw7, hp6] at this
          rw [T0.out]; exact this
        have B7 : Hid (Below (B + 1) w1 w7) := by rw [← hw7]; exact B6.out.alloc s6 _
        clear c
        go_wp2
        try rw [hw7]
        clear hw7 hp6 s6 s5 s4 k1 k1'
        go_loopw [4, 5] (fun rv i wr => ∃ x : Nat, x ≤ n ∧ i = .int .i64 x ∧ Hid (RowsL wr (B + 1) wr.heap.size rv (g2 x)) ∧ Hid (Below (B + 1) w1 wr)) (fun _ i _ => n - (intOf i).toNat)
        case atStart => exact ⟨0, by omega, rfl, M0, B7⟩
        case round =>
          obtain ⟨x, hx, rfl, hR, hBl⟩ := hrel
          by_cases cx : x < n
          · have k1 : decide (x < n) = true := by simpa using cx
            have k1' : decide ((x : Int) < (n : Int)) = true := decide_eq_true (by omega)
            have wx := IntWalk.i64_in ((x : Int) + 1) (by omega)
            have x0 : (0 : Int) ≤ (x : Int) := by omega
            have x1 : (x : Int) < (n : Int) := by omega
            have M2 : Hid (RowsL wr (B + 1) wr.heap.size u4 (g2 x ++ g1 x (x + 1))) := by unfold Hid; rw [T4.out, List.append_nil]; exact hR.out
            have SX := Lib.hid (T3.out x)
            obtain ⟨wq, rfl⟩ : ∃ wq : World, wq = wr := ⟨_, rfl⟩
            go_wp2
            go_loopw [4, 6] (fun rv i wr => ∃ y : Nat, x + 1 ≤ y ∧ y ≤ n ∧ i = .int .i64 y ∧ Hid (RowsL wr (B + 1) wr.heap.size rv (g2 x ++ g1 x y)) ∧ Hid (Below (B + 1) w1 wr)) (fun _ i _ => n - (intOf i).toNat)
            case atStart => exact ⟨x + 1, by omega, by omega, by go_num, M2, hBl⟩
            case round =>
              obtain ⟨y, hy0, hy, rfl, hR2, hBl2⟩ := hrel
              by_cases cy : y < n
              · have k2 : decide (y < n) = true := by simpa using cy
                have k2' : decide ((y : Int) < (n : Int)) = true := decide_eq_true (by omega)
                have wy := IntWalk.i64_in ((y : Int) + 1) (by omega)
                have y0 : (0 : Int) ≤ (y : Int) := by omega
                have y1 : (y : Int) < (n : Int) := by omega
                obtain ⟨gx, ox, kx, hx1, hx2⟩ := HK.out wr hBl2.out x cx
                have m1 := hx2 y cy
                obtain ⟨z, hz⟩ : ∃ z, F x y = z := ⟨_, rfl⟩
                have U1 := Lib.hid (T1.out x y z hz (by omega))
                have U2 := Lib.hid (T2.out x y z hz)
                rw [hz] at m1
                have gl := L1.out x y (by omega) (by omega)
                have bz : B + 1 ≤ wr.heap.size := by have := hBl2.out.size; omega
                clear hz hx2
                obtain ⟨wq2, rfl⟩ : ∃ wq : World, wq = wr := ⟨_, rfl⟩
                by_cases c3 : (y : Int) < z
                · have k3 : decide ((y : Int) < z) = true := decide_eq_true c3
                  have US := Lib.hid (U1.out c3)
                  have I5 : Ints (wq2.alloc (.cells #[.int .i64 (x : Int), .int .i64 (y : Int), .int .i64 z] 2)) wq2.heap.size (.slice (some ⟨wq2.heap.size, 0, none⟩) 3 3) [(x : Int), (y : Int), z] :=
                    Ia.ints (q := 3) (c := fun i => [(x : Int), (y : Int), z].getD i 0) (heap_alloc_new _ _) (Nat.le_refl _) (by decide)
                  have b6 : Below wq2.heap.size wq2 (wq2.alloc (.cells #[.int .i64 (x : Int), .int .i64 (y : Int), .int .i64 z] 2)) := (Below.refl _ _).alloc (Nat.le_refl _) _
                  have sb : (wq2.alloc (.cells #[.int .i64 (x : Int), .int .i64 (y : Int), .int .i64 z] 2)).heap.size = wq2.heap.size + 1 := World.size_alloc _ _
                  obtain ⟨wb, hwb⟩ : ∃ wb, wq2.alloc (.cells #[.int .i64 (x : Int), .int .i64 (y : Int), .int .i64 z] 2) = wb := ⟨_, rfl⟩
                  rw [hwb] at I5 b6 sb
                  have R6 := Lib.hid (hR2.out.below b6 (Nat.le_refl _))
                  have J5 := Lib.hid I5
                  have M6 : Hid (Below (B + 1) w1 wb) := hBl2.out.trans (b6.mono bz)
                  have SB := Lib.hid sb
                  have lt : (g2 x ++ g1 x y).length < 1000000 := by omega
                  clear I5 b6 sb gl
                  go_wp2_with (at_builtin; (try rw [hwb]); refine wpList_pushR wb (by rfl) _ _ (by rfl) (B + 1) wq2.heap.size _ _ _ _ (by rfl) R6.out J5.out _ (by first | rfl | (rw [SB.out]; rfl)) (by omega) bz ?_; intro v' w8 hn hb; have HN := Lib.hid hn; have HB6 := Lib.hid hb; clear hn hb)
                  go_roundw
                  case rel => exact ⟨y + 1, by omega, by omega, by go_num, by unfold Hid; rw [US.out, ← List.append_assoc]; exact HN.out, M6.out.trans HB6.out⟩
                  case measure => simp [intOf]; omega
                · have k3 : decide ((y : Int) < z) = false := decide_eq_false c3
                  have US := Lib.hid (U2.out (by omega))
                  go_wp2
                  go_roundw
                  case rel => exact ⟨y + 1, by omega, by omega, by go_num, by unfold Hid; rw [US.out]; exact hR2.out, hBl2⟩
                  case measure => simp [intOf]; omega
              · have k2 : decide (y < n) = false := by simpa using cy
                have k2' : decide ((y : Int) < (n : Int)) = false := decide_eq_false (by omega)
                obtain rfl : y = n := by omega
                go_wp2
                go_roundw
                case rel => exact ⟨x + 1, by omega, by go_num, by unfold Hid; rw [SX.out]; exact hR2.out, hBl2⟩
                case measure => simp [intOf]; omega
          · have k1 : decide (x < n) = false := by simpa using cx
            have k1' : decide ((x : Int) < (n : Int)) = false := decide_eq_false (by omega)
            obtain rfl : x = n := by omega
            have HD := Lib.hid (HSo.out _ _ hR.out.at)
            have z8 : B + 1 ≤ wr.heap.size := by have := hBl.out.size; omega
            obtain ⟨wq, rfl⟩ : ∃ wq : World, wq = wr := ⟨_, rfl⟩
            go_wp2_with fail
            refine HD.out.mono ?_
            rintro e w9 ⟨zz, rfl, hL, hO⟩
            have E9 : Hid (Below (B + 1) w1 w9) := hBl.out.trans (hO.mono z8)
            obtain ⟨ay, ly, cy, rfl⟩ : ∃ a l c, zz = .slice a l c := by obtain ⟨a, c, e, -⟩ := hL.at.shape; exact ⟨a, _, c, e⟩
            have RX : w9.heap[B]? = some (.cells #[.int .i64 0, .slice none 0 0] 24 (0, 0)) := (E9.out.block B (by omega)).trans RR1.out
            obtain ⟨d0, d1, f0, f1⟩ := cells2 w9 B _ _ _ RX
            have LX := Lib.hid hL
            have RX := Lib.hid RX
            have z8' := Lib.hid z8
            clear hL hO z8
            go_wp2
            refine endsD (fn := Tryd.f19) (i := 2) (j := 3) rfl w9 B _ _ RX.out _ _ _ _ ⟨.slice ay ly cy, by rw [YV.out.1, YV.out.2.2]; rfl, ?_, ?_⟩ _ rfl rfl
            · rw [YV.out.2.1]
              exact (RowsL.off2 LX.out (show B < wq.heap.size by have := z8'.out; omega) _ _).mono (by have := HB.out; have := z8'.out; omega) (by simp [World.setCell]) (Nat.le_refl _)
            · rw [HB.out]
              exact ((BB1.out.trans (E9.out.mono (by omega))).setCell (p := ⟨B, 0, none⟩) (Nat.le_refl B) _).setCell (p := ⟨B, 1, none⟩) (Nat.le_refl B) _
end

/-! TriplesOfSquare: the law. -/
section
open Go.RowKit
set_option linter.unusedVariables false
set_option linter.unusedSimpArgs false

theorem totTriplesOfSquare (xss : List (List Int)) : tot (TriplesOfSquare_L xss) ≤ 5000 := by
  unfold TriplesOfSquare_L
  cases hp : sqB xss with
  | false => rw [if_neg (by simp), tot_nil]; omega
  | true =>
    have S := of_sqB hp
    rw [if_pos rfl]
    split
    · obtain ⟨-, b, -, -, -, t⟩ := to_fin S.hi (fun x y hx hy => S.inSq x y hx hy) 0
      rw [b, tot_perm (sortL_perm _)]; omega
    · rw [tot_nil]; omega

set_option maxRecDepth 100000 in
set_option maxHeartbeats 4000000 in
theorem law_FnExactTriplesOfSquare (v1 : Value) (x1 : List (List Int)) (w : World) (h1 : RowsAt w v1 x1) (hx1 : ∀ r ∈ x1, ∀ x ∈ r, I64 x) (ht : Tab w) :
    Calls Tryd.prog 6 #[v1] w fun r w' => r = .returned (.bool true) ∧ Below w.heap.size w w' := by
  have hpos := ht.pos
  have TB := Lib.hid (fun W (h : Below w.heap.size w W) => ht.below h hpos)
  have HZ := Lib.hid (sz_rows w v1 x1 1048576 h1 (by omega) (by omega))
  have HS0 := Lib.hid (fun W v k => sTriplesOfSquare x1 W v k)
  have HI0 := Lib.hid (fun W v k t => iTriplesOfSquare x1 W v k t)
  have HR := Lib.hid (fun W (h : Below w.heap.size w W) => h1.below h (Nat.le_refl _))
  obtain ⟨zn, hzn⟩ : ∃ z, TriplesOfSquare_N x1 = z := ⟨_, rfl⟩
  obtain ⟨zl, hzl⟩ : ∃ z, TriplesOfSquare_L x1 = z := ⟨_, rfl⟩
  obtain ⟨zc, hzc⟩ : ∃ z, TriplesOfSquare_C x1 = z := ⟨_, rfl⟩
  have LT : Hid (tot zl ≤ 5000) := by rw [← hzl]; exact totTriplesOfSquare x1
  simp only [hzn, hzl, hzc] at HS0 HI0
  have tzc : (zc != zc) = false := by simp
  obtain ⟨a, cap, rfl, -⟩ := h1.shape
  obtain ⟨len, hlen⟩ : ∃ l, x1.length = l := ⟨_, rfl⟩
  have HL := Lib.hid hlen
  rw [hlen] at HZ HR ⊢
  clear hzn hzl hzc h1 hx1 hlen ht
  go_enter Tryd.func6, Tryd.ntmps6
  go_wp2_with fail
  refine HZ.out.mono ?_
  rintro e w2 ⟨q, rfl, hq, d, rfl⟩
  by_cases k : q < 0
  · have t : decide (q < 0) = true := decide_eq_true k
    go_wp2
    go_ret
    exact ⟨rfl, below_drewN (Below.refl _ _) _⟩
  have t : decide (q < 0) = false := decide_eq_false k
  obtain ⟨hq1, -⟩ := hq (by omega)
  rw [← HL.out] at hq1
  have CP := Lib.hid (fun W v (h : RowsAt W v x1) => copy_rows W v x1 h (by omega))
  have HS := HS0
  have HI := HI0
  have TQ : tot zl ≤ 1048576 := by have := LT.out; omega
  have TX : tot x1 ≤ 1048576 := by omega
  have E2 := Lib.hid (below_drewN (Below.refl w.heap.size w) d)
  obtain ⟨w3, hw3⟩ : ∃ W, w.drewN d = W := ⟨_, rfl⟩
  rw [hw3] at E2 ⊢
  clear hw3 HS0 HI0 hq1 hq HZ
  go_wp2_with fail
  refine (CP.out _ _ (HR.out _ E2.out)).mono ?_
  rintro e w4 ⟨u4, rfl, i4, b4⟩
  have E4 := Lib.hid (E2.out.trans (b4.mono E2.out.size))
  have I4 := Lib.hid i4.at
  clear i4 b4 E2
  go_wp2_with fail
  refine (HS.out _ _ I4.out).mono ?_
  rintro e w5 ⟨u5, rfl, i5, b5⟩
  obtain ⟨a5, l5, c5, rfl⟩ : ∃ a l c, u5 = .slice a l c := by obtain ⟨a, c, e, -⟩ := i5.at.shape; exact ⟨a, _, c, e⟩
  have E5 := E4.out.trans (b5.mono E4.out.size)
  have C6 := Cpy.new zn 24 i5 b5.size
  have B6 : Below w5.heap.size w5 (w5.alloc (.cells #[.int .i64 zn, .slice a5 l5 c5] 24)) := (Below.refl _ _).alloc (Nat.le_refl _) _
  have E6 := Lib.hid (E5.trans (B6.mono E5.size))
  have s6 := World.size_alloc w5 (.cells #[.int .i64 zn, .slice a5 l5 c5] 24)
  obtain ⟨w6, hw6⟩ : ∃ W, w5.alloc (.cells #[.int .i64 zn, .slice a5 l5 c5] 24) = W := ⟨_, rfl⟩
  obtain ⟨P0, hP0⟩ : ∃ P, w5.heap.size = P := ⟨_, rfl⟩
  obtain ⟨b0, hb0⟩ : ∃ P, w4.heap.size = P := ⟨_, rfl⟩
  rw [hw6, hP0, hb0] at C6
  rw [hw6] at E6
  rw [hw6, hP0] at s6
  clear i5 b5 E5 B6 I4 E4
  go_wp2_with fail
  try rw [hw6]
  clear hw6
  refine (CP.out _ _ (HR.out _ E6.out)).mono ?_
  rintro e w7 ⟨u7, rfl, i7, b7⟩
  obtain ⟨a7, l7, c7, rfl⟩ : ∃ a l c, u7 = .slice a l c := by obtain ⟨a, c, e, -⟩ := i7.at.shape; exact ⟨a, _, c, e⟩
  obtain ⟨B7, hB7⟩ : ∃ P, w6.heap.size = P := ⟨_, rfl⟩
  have E7 := Lib.hid (E6.out.trans (b7.mono E6.out.size))
  have C7 := Cpy.next C6 b7
  obtain ⟨L7, hL7⟩ : ∃ P, w7.heap.size = P := ⟨_, rfl⟩
  have BL7 : B7 ≤ L7 := by rw [← hB7, ← hL7]; exact b7.size
  have PB : P0 < B7 := by omega
  have wB7 : w.heap.size ≤ B7 := by rw [← hB7]; exact E6.out.size
  rw [hB7, hL7] at i7
  have J7 := Lib.hid i7
  clear i7 b7 E6 C6 s6 hB7
  go_wp2_with fail
  refine (HI.out _ _ J7.out.at (TB.out _ E7.out)).mono ?_
  rintro e w8 ⟨u8, rfl, i8, b8⟩
  obtain ⟨a8, l8, c8, rfl⟩ : ∃ a l c, u8 = .slice a l c := by obtain ⟨a, c, e, -⟩ := i8.at.shape; exact ⟨a, _, c, e⟩
  have E8 := E7.out.trans (b8.mono E7.out.size)
  have C8 := Cpy.next C7 b8
  have J8 := J7.out.below b8 (Nat.le_refl _)
  have D9 := Cpy.new zn 24 i8 b8.size
  have B9 : Below w8.heap.size w8 (w8.alloc (.cells #[.int .i64 zn, .slice a8 l8 c8] 24)) := (Below.refl _ _).alloc (Nat.le_refl _) _
  have E9 := Lib.hid (E8.trans (B9.mono E8.size))
  have C9 := Cpy.next C8 B9
  have J9 := Lib.hid (J8.below B9 (Nat.le_refl _))
  obtain ⟨w9, hw9⟩ : ∃ W, w8.alloc (.cells #[.int .i64 zn, .slice a8 l8 c8] 24) = W := ⟨_, rfl⟩
  obtain ⟨P1, hP1⟩ : ∃ P, w8.heap.size = P := ⟨_, rfl⟩
  have LP : L7 ≤ P1 := by rw [← hL7, ← hP1]; exact b8.size
  rw [hw9, hP1, hL7] at D9
  rw [hw9] at E9 C9 J9
  clear i8 b8 E8 C8 J8 B9 E7 C7 J7
  obtain ⟨c0, c1⟩ := Cpy.cells C9
  obtain ⟨d0, d1⟩ := Cpy.cells D9
  go_wp2_with fail
  try rw [hw9]
  clear hw9
  refine (eq_Design _ zn _ _ zl (Cpy.at D9) (Cpy.at C9)).mono ?_
  rintro e wa ⟨rfl, ba⟩
  have Ea := Lib.hid (E9.out.trans (ba.mono E9.out.size))
  have Ca := Cpy.next C9 ba
  have Da := Cpy.next D9 ba
  have Ja := Lib.hid (J9.out.below ba (Nat.le_refl _))
  clear ba c0 c1 d0 d1 E9 C9 D9 J9
  go_wp2_with fail
  refine (CP.out _ _ (HR.out _ Ea.out)).mono ?_
  rintro e wb ⟨ub, rfl, ib, bb⟩
  have Eb := Lib.hid (Ea.out.trans (bb.mono Ea.out.size))
  have Cb := Cpy.next Ca bb
  have Db := Cpy.next Da bb
  have Jb := Lib.hid (Ja.out.below bb (Nat.le_refl _))
  have Ib := Lib.hid ib.at
  clear ib bb Ea Ca Da Ja
  go_wp2_with fail
  refine (eq_rows _ _ _ x1 Jb.out.at Ib.out).mono ?_
  rintro e wc' ⟨rfl, kc, rfl⟩
  have bc : Below wb.heap.size wb (wb.drewN kc) := below_drewN (Below.refl _ _) kc
  obtain ⟨wc, hwc⟩ : ∃ W, wb.drewN kc = W := ⟨_, rfl⟩
  rw [hwc] at bc ⊢
  have Ec := Lib.hid (Eb.out.trans (bc.mono Eb.out.size))
  have Cc := Cpy.next Cb bc
  have Dc := Cpy.next Db bc
  have Jc := Lib.hid (Jb.out.below bc (Nat.le_refl _))
  clear bc hwc Eb Cb Db Jb Ib
  go_wp2_with fail
  refine (mark_rows _ B7 L7 _ x1 1 Jc.out (by omega) (by omega)).mono ?_
  rintro e wd ⟨rfl, -, md⟩
  obtain ⟨kq, hkq⟩ : ∃ q : Int, 1 + (tot x1 : Int) = q := ⟨_, rfl⟩
  rw [hkq]
  have fq : decide (kq < 0) = false := decide_eq_false (by omega)
  have Ed := Lib.hid (Ec.out.trans (md.below.mono wB7))
  have Cd := Cpy.keep Cc md (.inl PB)
  have Dd := Cpy.keep Dc md (.inr (Nat.le_refl _))
  clear md hkq Ec Cc Dc Jc
  obtain ⟨c0, c1⟩ := Cpy.cells Cd
  obtain ⟨d0, d1⟩ := Cpy.cells Dd
  go_wp2_with fail
  refine (eq_Design _ zn _ _ zl (Cpy.at Dd) (Cpy.at Cd)).mono ?_
  rintro e we ⟨rfl, be⟩
  have Ee := Lib.hid (Ed.out.trans (be.mono Ed.out.size))
  have Ce := Cpy.next Cd be
  have De := Cpy.next Dd be
  clear be c0 c1 d0 d1 Ed Cd Dd
  obtain ⟨d0, d1⟩ := Cpy.cells De
  go_wp2_with fail
  refine (mark_DesignR _ L7 P1 zn _ zl 1 De.out.2.1 (by omega) (by omega)).mono ?_
  rintro e wf ⟨rfl, rf, mf⟩
  have bf : Below we.heap.size we (we.alloc (.cells #[.int .i64 zn, .slice a8 l8 c8] 24)) := (Below.refl _ _).alloc (Nat.le_refl _) _
  have Ef := Lib.hid ((Ee.out.trans (bf.mono Ee.out.size)).trans (mf.below.mono (by omega)))
  have Cf := Cpy.keep (Cpy.next Ce bf) mf (.inl (by omega))
  have Df := Cpy.marked (Cpy.next De bf) mf rf
  obtain ⟨q2, hq2⟩ : ∃ q : Int, 1 + (tot zl : Int) = q := ⟨_, rfl⟩
  rw [hq2]
  have f2 : decide (q2 < 0) = false := decide_eq_false (by omega)
  have e2 : (q2 != q2) = false := by simp
  have HQ2 := Lib.hid hq2
  clear bf mf rf hq2 d0 d1 Ee Ce De
  obtain ⟨d0, d1⟩ := Cpy.cells Df
  go_wp2_with fail
  refine (held_Design _ zn _ zl 1 (Cpy.at Df) (by omega) (by omega)).mono ?_
  rintro e wg ⟨rfl, bg⟩
  rw [HQ2.out]
  have Eg := Lib.hid (Ef.out.trans (bg.mono Ef.out.size))
  have Cg := Cpy.next Cf bg
  have Dg := Cpy.next Df bg
  clear bg d0 d1 Ef Cf Df
  go_wp2_with fail
  refine (CP.out _ _ (HR.out _ Eg.out)).mono ?_
  rintro e wh ⟨uh, rfl, ih, bh⟩
  obtain ⟨ah, lh, ch, rfl⟩ : ∃ a l c, uh = .slice a l c := by obtain ⟨a, c, e, -⟩ := ih.at.shape; exact ⟨a, _, c, e⟩
  have Eh := Lib.hid (Eg.out.trans (bh.mono Eg.out.size))
  have Ch := Cpy.next Cg bh
  have Dh := Cpy.next Dg bh
  have Ih := Lib.hid ih.at
  clear ih bh Eg Cg Dg
  go_wp2_with fail
  refine (HI.out _ _ Ih.out (TB.out _ Eh.out)).mono ?_
  rintro e wi ⟨ui, rfl, ii, bi⟩
  obtain ⟨ai, li, ci, rfl⟩ : ∃ a l c, ui = .slice a l c := by obtain ⟨a, c, e, -⟩ := ii.at.shape; exact ⟨a, _, c, e⟩
  have Ei := Eh.out.trans (bi.mono Eh.out.size)
  have Ci := Cpy.next Ch bi
  have Di := Cpy.next Dh bi
  have F9 := Cpy.new zn 24 ii bi.size
  have Bj : Below wi.heap.size wi (wi.alloc (.cells #[.int .i64 zn, .slice ai li ci] 24)) := (Below.refl _ _).alloc (Nat.le_refl _) _
  have Ej := Lib.hid (Ei.trans (Bj.mono Ei.size))
  have Cj := Cpy.next Ci Bj
  have Dj := Cpy.next Di Bj
  obtain ⟨wj, hwj⟩ : ∃ W, wi.alloc (.cells #[.int .i64 zn, .slice ai li ci] 24) = W := ⟨_, rfl⟩
  rw [hwj] at F9 Ej Cj Dj
  obtain ⟨P2, hP2⟩ : ∃ P, wi.heap.size = P := ⟨_, rfl⟩
  rw [hP2] at F9
  clear ii bi Ei Ci Di Bj Eh Ch Dh Ih
  obtain ⟨c0, c1⟩ := Cpy.cells Cj
  obtain ⟨d0, d1⟩ := Cpy.cells F9
  go_wp2_with fail
  try rw [hwj]
  clear hwj
  refine (eq_Design _ zn _ _ zl (Cpy.at F9) (Cpy.at Cj)).mono ?_
  rintro e wk ⟨rfl, bk⟩
  have Ek := Lib.hid (Ej.out.trans (bk.mono Ej.out.size))
  have Dk := Cpy.next Dj bk
  clear bk c0 c1 d0 d1 Ej Cj Dj F9
  obtain ⟨d0, d1⟩ := Cpy.cells Dk
  go_wp2_with fail
  refine (held_Design _ zn _ zl 1 (Cpy.at Dk) (by omega) (by omega)).mono ?_
  rintro e wl ⟨rfl, bl⟩
  rw [HQ2.out]
  have El := Lib.hid (Ek.out.trans (bl.mono Ek.out.size))
  clear bl d0 d1 Ek Dk
  go_wp2
  go_ret
  exact ⟨rfl, El.out⟩
end
end Go.Proofs.YtanfodbpgpfjmaaDoor
