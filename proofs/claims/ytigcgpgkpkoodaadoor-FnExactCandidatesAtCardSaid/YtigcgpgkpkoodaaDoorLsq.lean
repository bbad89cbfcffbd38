/- The program's squares out of rows: transposed, latinSquareOf. -/
import Derived.Test.YtigcgpgkpkoodaaDoorRws
import Derived.Shelf.Abstract
namespace Go.Proofs.YtigcgpgkpkoodaaDoor
open Go.RowKit Go.Shelf
set_option linter.unusedVariables false

theorem ifill2 (n : Nat) (hn : n ≤ 10) (w : World) (s : Value) (f : Nat → Nat → Int) (hs : SymOk w w.heap.size s n f) :
    Calls Tryd.prog 74 #[.int .i64 n, s] w fun e w' => e = .returned (.agg (iar 101 (sqC n (sqF n f)))) ∧ Below w.heap.size w w' := ifill n hn w s f hs
theorem irows2 (n : Nat) (hn : n ≤ 10) (w : World) (f : Nat → Nat → Int) :
    Calls Tryd.prog 77 #[.agg (iar 101 (sqC n f))] w fun e w' => ∃ r, e = .returned r ∧ RowsL w' w.heap.size w'.heap.size r (gridL n n f) ∧ Below w.heap.size w w' := irows n hn w f

set_option maxHeartbeats 1000000 in
theorem iltr (W : World) (g n : Nat) (f : Nat → Nat → Int) (h : SqAt W g n f) (x y : Nat) (hx : x < 10) (hy : y < 10) :
    Calls Tryd.prog 84 #[.int .i64 x, .int .i64 y, .pointer (some ⟨g, 0, none⟩)] W fun e W' => e = .returned (.int .i64 (f y x)) ∧ W' = W := by
  have c := Ia.cell h (1 + y * 10 + x) (by omega)
  rw [sqC_at _ _ hx] at c
  have x0 : (0 : Int) ≤ (x : Int) := by omega
  have x1 : (x : Int) < 10 := by omega
  have y0 : (0 : Int) ≤ (y : Int) := by omega
  have y1 : (y : Int) < 10 := by omega
  obtain ⟨z, hz⟩ : ∃ z, f y x = z := ⟨_, rfl⟩
  rw [hz] at c ⊢
  clear hz h
  go_enter Tryd.func84, Tryd.ntmps84
  go_wp2
  go_ret
  exact ⟨rfl, rfl⟩

set_option maxRecDepth 100000 in
set_option maxHeartbeats 4000000 in
theorem itrans (n : Nat) (hn : n ≤ 10) (w : World) (f : Nat → Nat → Int) :
    Calls Tryd.prog 76 #[.agg (iar 101 (sqC n f))] w fun e w' => e = .returned (.agg (iar 101 (sqC n (sqF n (fun x y => f y x))))) ∧ Below w.heap.size w w' := by
  have hmf : ∀ (fn : Fn) (first cap : Array Value) (w : World), (Instr.makeFunc fn first cap).run Tryd.prog w = .ok (.func fn first cap) w := fun _ _ _ _ => rfl
  obtain ⟨b, hb⟩ : ∃ b, w.heap.size = b := ⟨_, rfl⟩
  have bx : (w.alloc (.cells (iar 101 (sqC n f)) 64)).heap.size = b + 1 := by rw [World.size_alloc, hb]
  have b1 : Below b w (w.alloc (.cells (iar 101 (sqC n f)) 64)) := (Below.refl _ _).alloc (by omega) _
  have A1 : SqAt (w.alloc (.cells (iar 101 (sqC n f)) 64)) b n f := by unfold SqAt Ia; rw [← hb]; exact heap_alloc_new _ _
  obtain ⟨w1, hw1⟩ : ∃ w1, w.alloc (.cells (iar 101 (sqC n f)) 64) = w1 := ⟨_, rfl⟩
  rw [hw1] at bx b1 A1
  have b2 : Below b w (w1.alloc (.cells Tryd.zeroCells64 64)) := b1.alloc (by omega) _
  have A2 : SqAt (w1.alloc (.cells Tryd.zeroCells64 64)) b n f := (heap_alloc_old _ _ (by omega)).trans A1
  have A3 : SqAt (w1.alloc (.cells Tryd.zeroCells64 64)) (b + 1) 0 (fun _ _ => 0) := by unfold SqAt Ia; rw [← sqC_zeros, ← bx, heap_alloc_new, zeroSq]
  have z2 : (w1.alloc (.cells Tryd.zeroCells64 64)).heap.size = b + 2 := by rw [World.size_alloc, bx]
  obtain ⟨w2, hw2⟩ : ∃ w2, w1.alloc (.cells Tryd.zeroCells64 64) = w2 := ⟨_, rfl⟩
  rw [hw2] at b2 A2 A3 z2
  have HF := Lib.hid (ifill2 n hn w2 (.func (.func 84) #[] #[.pointer (some ⟨b, 0, none⟩)]) (fun x y => f y x)
    ⟨_, _, _, rfl, enters_of Tryd.func84 (by kernel_rfl) rfl, fun W x y hW hx hy => iltr W b n f (SqAt.below A2 hW (by omega)) x y (by omega) (by omega)⟩)
  have or2 := SqAt.order A2
  have H3 := Lib.hid A3
  have HB2 := Lib.hid b2
  rw [hb]
  clear A1 A2 A3 b1 b2
  go_enter Tryd.func76, Tryd.ntmps76
  go_wp2_with fail
  refine HF.out.mono ?_
  rintro e w3 ⟨rfl, b3⟩
  have A4 := SqAt.below H3.out b3 (by omega)
  have st := Ia.stores (d := sqC n (sqF n (fun x y => f y x))) A4
  have P2 : Hid (SqAt (w3.setRow (b + 1) (iar 101 (sqC n (sqF n (fun x y => f y x))))) (b + 1) n (sqF n (fun x y => f y x))) := setRow_heap _ _ _ _ _ _ A4
  have P3 : Hid (Below b w (w3.setRow (b + 1) (iar 101 (sqC n (sqF n (fun x y => f y x)))))) := below_row (HB2.out.trans (b3.mono (by omega))) (by omega) _
  clear b3 A4
  go_wp2
  refine bodyPost_ret (v := .agg (iar 101 (sqC n (sqF n (fun x y => f y x))))) (results_cell_row Tryd.results76 _ _ _ _ _ _ _ rfl P2.out Tryd.underlying64 rfl (by rw [iar_size]; exact Tryd.infoSq)) rfl ⟨rfl, P3.out⟩

/-- Two results: a variable of several cells, and a temporary. -/
theorem results_cell_tmp {P : Program} {fn : Func} {p t : Tmp} {ty : TypeId} (h : fn.results = #[.cell p ty, .tmp t]) (tmps : Array Value) (w : World) (g : Nat) (T : TypeId) (cs : Array Value) (fr : Nat × Nat) (d : TypeDesc)
    (hp : tmps.getD p undef = .pointer (some ⟨g, 0, none⟩)) (v : Value) (ht : tmps.getD t undef = v) (hg : w.heap[g]? = some (.cells cs T fr))
    (hu : P.underlying ty = some d) (hd : (match d with | .struct _ | .array _ _ => true | _ => false) = true) (hi : (P.info? ty).map (·.size) = some cs.size) :
    (results fn tmps).run P w = .ok (.tuple #[.agg cs, v]) w := by
  have hp' : tmps[p]?.getD undef = .pointer (some ⟨g, 0, none⟩) := by simpa using hp
  have ht' : tmps[t]?.getD undef = v := by simpa using ht
  simp [results, h, hp', ht', asAddr, run_loadVar_row w g T ty cs fr d hg hu hd hi]

set_option maxHeartbeats 1000000 in
theorem iclos (W : World) (b : Nat) (v : Value) (xss : List (List Int)) (hb : W.cell? ⟨b, 0, none⟩ = some v) (hv : RowsAt W v xss) (x y : Nat) (hx : x < xss.length) (hy : y < (xss.getD x []).length) (hl : xss.length ≤ 10) (hl2 : (xss.getD x []).length ≤ 10) :
    Calls Tryd.prog 75 #[.int .i64 x, .int .i64 y, .pointer (some ⟨b, 0, none⟩)] W fun e W' => e = .returned (.int .i64 (cellF xss x y)) ∧ W' = W := by
  obtain ⟨g, off, g2, off2, l2, c2, cap, rfl, h1, rfl, h3⟩ := hv.at2 hx hy
  have e : cellF xss x y = (xss.getD x []).getD y 0 := rfl
  rw [e]
  obtain ⟨z, hz⟩ : ∃ z, (xss.getD x []).getD y 0 = z := ⟨_, rfl⟩
  rw [hz] at h3 ⊢
  obtain ⟨n, hn⟩ : ∃ n, xss.length = n := ⟨_, rfl⟩
  obtain ⟨m, hm⟩ : ∃ m, (xss.getD x []).length = m := ⟨_, rfl⟩
  rw [hn] at hb hx hl
  rw [hm] at h1 hy hl2
  have x0 : (0 : Int) ≤ (x : Int) := by omega
  have x1 : (x : Int) < (n : Int) := by omega
  have y0 : (0 : Int) ≤ (y : Int) := by omega
  have y1 : (y : Int) < (m : Int) := by omega
  clear hz hn hm hv e
  go_enter Tryd.func75, Tryd.ntmps75
  go_wp2
  go_ret
  exact ⟨rfl, rfl⟩

theorem IsSq.hp {xss : List (List Int)} (h1 : 1 ≤ xss.length) (h2 : xss.length ≤ 10) :
    sqB xss = (hpB xss.length xss && hpB xss.length (gridL xss.length xss.length (sqF xss.length (fun x y => sqF xss.length (cellF xss) y x)))) := by
  have eg : gridL xss.length xss.length (sqF xss.length (fun x y => sqF xss.length (cellF xss) y x)) = gridL xss.length xss.length (fun x y => cellF xss y x) := by
    rw [gridL_sqF]
    exact gridL_congr fun x y hx hy => sqF_in _ hy hx
  rw [eg]
  have er : ∀ x, x < xss.length → (gridL xss.length xss.length (fun x y => cellF xss y x)).getD x [] = colL xss x := fun x hx => by
    rw [gridL_getD _ hx]; exact colL_grid
  cases e1 : hpB xss.length xss with
  | false =>
    rw [Bool.false_and]
    refine sqB_false fun k => ?_
    rw [hpB_true (fun x hx => k.row x hx)] at e1
    cases e1
  | true =>
    rw [Bool.true_and]
    have k1 := of_hpB e1
    cases e2 : hpB xss.length (gridL xss.length xss.length (fun x y => cellF xss y x)) with
    | false =>
      refine sqB_false fun k => ?_
      rw [hpB_true (fun x hx => ?_)] at e2
      · cases e2
      · rw [gridL_length] at hx
        unfold rowD
        rw [er x hx, colL_length]
        exact ⟨rfl, k.col x hx⟩
    | true =>
      have k2 := of_hpB e2
      refine sqB_true ⟨h1, h2, k1, fun y hy => ?_⟩
      have := (k2 y (by rw [gridL_length]; exact hy)).2
      rwa [er y hy] at this

theorem zeroSq2 : Tryd.zeroCells64 = iar 101 (sqC 0 (fun _ _ => 0)) := zeroSq.trans (congrArg (iar 101) sqC_zeros)
theorem SqAt.zst {w : World} {g n : Nat} {f : Nat → Nat → Int} (h : SqAt w g n f) : (storeCells ⟨g, 0, none⟩ Tryd.zeroCells64.toList 0).run Tryd.prog w = .ok () (w.setRow g (iar 101 (sqC 0 (fun _ _ => 0)))) := by
  have := Ia.stores (d := sqC 0 (fun _ _ => 0)) h
  rwa [← zeroSq2] at this ⊢
theorem SqAt.row {w : World} {g n m : Nat} {f k : Nat → Nat → Int} (h : SqAt w g n f) : SqAt (w.setRow g (iar 101 (sqC m k))) g m k := setRow_heap _ _ _ _ _ _ h

set_option maxRecDepth 100000 in
set_option maxHeartbeats 4000000 in
theorem ilsq (w : World) (v : Value) (xss : List (List Int)) (hv : RowsAt w v xss) :
    Calls Tryd.prog 57 #[v] w fun e w' => ∃ n f, e = .returned (.tuple #[.agg (iar 101 (sqC n f)), .bool (sqB xss)]) ∧ (sqB xss = true → n = xss.length ∧ f = sqF xss.length (cellF xss)) ∧ Below w.heap.size w w' := by
  have hmf : ∀ (fn : Fn) (first cap : Array Value) (w : World), (Instr.makeFunc fn first cap).run Tryd.prog w = .ok (.func fn first cap) w := fun _ _ _ _ => rfl
  obtain ⟨b, hb⟩ : ∃ b, w.heap.size = b := ⟨_, rfl⟩
  have hml := hv.1
  obtain ⟨va, vc, rfl, vk, -⟩ := hv.cellsOf
  obtain ⟨v, hvv⟩ : ∃ v, Value.slice va xss.length vc = v := ⟨_, rfl⟩
  have bx : (w.alloc (.cells #[v] 34)).heap.size = b + 1 := by rw [World.size_alloc, hb]
  have b1 : Below b w (w.alloc (.cells #[v] 34)) := (Below.refl _ _).alloc (by omega) _
  have A1 : (w.alloc (.cells #[v] 34)).heap[b]? = some (.cells #[v] 34 (0, 0)) := by rw [← hb]; exact heap_alloc_new _ _
  obtain ⟨w1, hw1⟩ : ∃ w1, w.alloc (.cells #[v] 34) = w1 := ⟨_, rfl⟩
  rw [hw1] at bx b1 A1
  have b2 : Below b w (w1.alloc (.cells Tryd.zeroCells64 64)) := b1.alloc (by omega) _
  have A2 : (w1.alloc (.cells Tryd.zeroCells64 64)).heap[b]? = some (.cells #[v] 34 (0, 0)) := (heap_alloc_old _ _ (by omega)).trans A1
  have A3 : SqAt (w1.alloc (.cells Tryd.zeroCells64 64)) (b + 1) 0 (fun _ _ => 0) := by unfold SqAt Ia; rw [← sqC_zeros, ← bx, heap_alloc_new, zeroSq]
  have z2 : (w1.alloc (.cells Tryd.zeroCells64 64)).heap.size = b + 2 := by rw [World.size_alloc, bx]
  obtain ⟨w2, hw2⟩ : ∃ w2, w1.alloc (.cells Tryd.zeroCells64 64) = w2 := ⟨_, rfl⟩
  rw [hw2] at b2 A2 A3 z2
  subst hvv
  have c2 : w2.cell? ⟨b, 0, none⟩ = some (.slice va xss.length vc) := by rw [cell_of_row w2 b 0 _ _ _ A2]; rfl
  have hv2 : RowsAt w2 (.slice va xss.length vc) xss := hv.below b2 (by omega)
  have Z2 := Lib.hid A3
  have HB2 := Lib.hid b2
  have HB := Lib.hid hb
  have x2 := Lib.hid A2
  by_cases hr : 1 ≤ xss.length ∧ xss.length ≤ 10
  case neg =>
    have V : sqB xss = false := sqB_false fun k => hr ⟨k.lo, k.hi⟩
    have HV := Lib.hid V
    have zs := SqAt.zst A3
    have P2 := Lib.hid (SqAt.row (m := 0) (k := fun _ _ => 0) A3)
    have P3 : Hid (Below b w (w2.setRow (b + 1) (iar 101 (sqC 0 (fun _ _ => 0))))) := below_row b2 (by omega) _
    obtain ⟨n, hn⟩ : ∃ n, xss.length = n := ⟨_, rfl⟩
    rw [hn] at hml c2 hr hw1
    rw [hn]
    by_cases c : n < 1
    · have t1 : decide ((n : Int) < 1) = true := decide_eq_true (by omega)
      have t1' : decide (n < 1) = true := decide_eq_true (by omega)
      clear A2 A3 hv hv2 b1 b2 hn V
      go_enter Tryd.func57, Tryd.ntmps57
      go_wp2
      refine bodyPost_ret (v := .tuple #[.agg (iar 101 (sqC 0 (fun _ _ => 0))), .bool false]) (results_cell_tmp Tryd.results57 _ _ _ _ _ _ _ rfl _ rfl P2.out Tryd.underlying64 rfl (by rw [iar_size]; exact Tryd.infoSq)) rfl ⟨0, fun _ _ => 0, by rw [HV.out], (fun h => by rw [HV.out] at h; cases h), ?_⟩
      rw [HB.out]; exact P3.out
    · have t1 : decide ((n : Int) < 1) = false := decide_eq_false (by omega)
      have t1' : decide (n < 1) = false := decide_eq_false (by omega)
      have t2 : decide ((10 : Int) < (n : Int)) = true := decide_eq_true (by omega)
      have t2' : decide (10 < n) = true := decide_eq_true (by omega)
      clear A2 A3 hv hv2 b1 b2 hn V
      go_enter Tryd.func57, Tryd.ntmps57
      go_wp2
      refine bodyPost_ret (v := .tuple #[.agg (iar 101 (sqC 0 (fun _ _ => 0))), .bool false]) (results_cell_tmp Tryd.results57 _ _ _ _ _ _ _ rfl _ rfl P2.out Tryd.underlying64 rfl (by rw [iar_size]; exact Tryd.infoSq)) rfl ⟨0, fun _ _ => 0, by rw [HV.out], (fun h => by rw [HV.out] at h; cases h), ?_⟩
      rw [HB.out]; exact P3.out
  obtain ⟨h1, h2⟩ := hr
  have SQ := Lib.hid (IsSq.hp h1 h2)
  have hs1 : w2.heap.size = b + 2 := z2
  have HP := Lib.hid (ihp xss.length (by omega) w2 _ xss hv2)
  have HV2 := Lib.hid hv2
  obtain ⟨p, hp⟩ : ∃ p, hpB xss.length xss = p := ⟨_, rfl⟩
  rw [hp] at HP SQ
  have R1 := Lib.hid (fun (h : p = true) x (hx : x < xss.length) => (of_hpB (hp.trans h) x hx).1)
  obtain ⟨n, hn⟩ : ∃ n, xss.length = n := ⟨_, rfl⟩
  have CLO := Lib.hid (fun (h : p = true) W x y (hW : Below w2.heap.size w2 W) (hx : x < n) (hy : y < n) => iclos W b (.slice va n vc) xss ((hW.cell (p := ⟨b, 0, none⟩) (by simp only; omega)).trans (by rw [← hn]; exact c2)) (by rw [← hn]; exact HV2.out.below hW (Nat.le_refl _)) x y (by rw [hn]; exact hx) (by rw [R1.out h x (by rw [hn]; exact hx), hn]; exact hy) h2 (by rw [R1.out h x (by rw [hn]; exact hx)]; exact h2))
  rw [hn] at HP SQ h1 h2 c2 hw1 ⊢
  have t1 : decide ((n : Int) < 1) = false := decide_eq_false (by omega)
  have t1' : decide (n < 1) = false := decide_eq_false (by omega)
  have t2 : decide ((10 : Int) < (n : Int)) = false := decide_eq_false (by omega)
  have t2' : decide (10 < n) = false := decide_eq_false (by omega)
  have HN := Lib.hid hn
  clear A2 A3 hv hv2 b1 b2 hn hp R1 HV2 hml
  cases p with
  | false =>
    have V : Hid (sqB xss = false) := by have := SQ.out; rwa [Bool.false_and] at this
    clear CLO SQ
    go_enter Tryd.func57, Tryd.ntmps57
    go_wp2_with fail
    refine HP.out.mono ?_
    rintro e w3 ⟨rfl, b3⟩
    have A3 := SqAt.below Z2.out b3 (by omega)
    have zs := SqAt.zst A3
    have P2 := Lib.hid (SqAt.row (m := 0) (k := fun _ _ => 0) A3)
    have P3 : Hid (Below b w (w3.setRow (b + 1) (iar 101 (sqC 0 (fun _ _ => 0))))) := below_row (HB2.out.trans (b3.mono (by omega))) (by omega) _
    clear A3 b3
    go_wp2
    refine bodyPost_ret (v := .tuple #[.agg (iar 101 (sqC 0 (fun _ _ => 0))), .bool false]) (results_cell_tmp Tryd.results57 _ _ _ _ _ _ _ rfl _ rfl P2.out Tryd.underlying64 rfl (by rw [iar_size]; exact Tryd.infoSq)) rfl ⟨0, fun _ _ => 0, by rw [V.out], (fun h => by rw [V.out] at h; cases h), ?_⟩
    rw [HB.out]; exact P3.out
  | true =>
    have SQ2 : Hid (sqB xss = hpB n (gridL n n (sqF n (fun x y => sqF n (cellF xss) y x)))) := by have := SQ.out; rwa [Bool.true_and] at this
    clear SQ
    go_enter Tryd.func57, Tryd.ntmps57
    go_wp2_with fail
    refine HP.out.mono ?_
    rintro e w3 ⟨rfl, b3⟩
    have HB3 := Lib.hid b3
    have s3 := b3.size
    have HF := Lib.hid (ifill2 n h2 w3 (.func (.func 75) #[] #[.pointer (some ⟨b, 0, none⟩)]) (cellF xss)
      ⟨_, _, _, rfl, enters_of Tryd.func75 (by kernel_rfl) rfl, fun W x y hW hx hy => CLO.out (by trivial) W x y (b3.trans (hW.mono s3)) hx hy⟩)
    clear b3 CLO HP
    go_wp2_with fail
    refine HF.out.mono ?_
    rintro e w4 ⟨rfl, b4⟩
    have s4 := b4.size
    have B4 : Hid (Below w2.heap.size w2 w4) := HB3.out.trans (b4.mono s3)
    have s24 := B4.out.size
    obtain ⟨F, hF⟩ : ∃ F, sqF n (cellF xss) = F := ⟨_, rfl⟩
    have st := stores_newSq w4 (sqC n F)
    have A5 : SqAt (w4.alloc (.cells (iar 101 (sqC n F)) 64)) w4.heap.size n F := heap_alloc_new _ _
    have b5 : Below w2.heap.size w2 (w4.alloc (.cells (iar 101 (sqC n F)) 64)) := B4.out.alloc s24 _
    have z5 : (w4.alloc (.cells (iar 101 (sqC n F)) 64)).heap.size = w4.heap.size + 1 := World.size_alloc _ _
    obtain ⟨w5, hw5⟩ : ∃ w5, w4.alloc (.cells (iar 101 (sqC n F)) 64) = w5 := ⟨_, rfl⟩
    rw [hw5] at st A5 b5 z5
    rw [hF]
    obtain ⟨q, hq⟩ : ∃ q, w4.heap.size = q := ⟨_, rfl⟩
    rw [hq] at st A5 z5
    have ld5 := Ia.loads A5
    have X5 := Lib.hid A5
    have B5 := Lib.hid b5
    have HT := Lib.hid (itrans n h2 w5 F)
    rw [hF] at SQ2
    have HHF := Lib.hid hF
    clear A5 b5 b4 HF B4 hF
    go_wp2_with (refine wpList_load_row rfl 64 (.tmp 5) rfl _ rfl _ _ _ _ X5.out Tryd.underlying64 rfl (by rw [iar_size]; exact Tryd.infoSq) ?_)
    refine HT.out.mono ?_
    rintro e w6 ⟨rfl, b6⟩
    have B6 : Hid (Below w2.heap.size w2 w6) := B5.out.trans (b6.mono B5.out.size)
    have X6 : Hid (SqAt w6 q n F) := SqAt.below X5.out b6 (by omega)
    have HR := Lib.hid (irows2 n h2 w6 (sqF n (fun x y => F y x)))
    clear b6 HT X5 B5 ld5
    go_wp2_with fail
    refine HR.out.mono ?_
    rintro e w7 ⟨r, rfl, r7, b7⟩
    have s6 := B6.out.size
    have B7 : Hid (Below w2.heap.size w2 w7) := B6.out.trans (b7.mono s6)
    have s67 := b7.size
    have X7 : Hid (SqAt w7 q n F) := SqAt.below X6.out b7 (by have := Ia.lt X6.out; omega)
    have HH := Lib.hid (ihp n (by omega) w7 _ _ r7.at)
    rw [← SQ2.out] at HH
    clear b7 HR X6 r7
    go_wp2_with fail
    refine HH.out.mono ?_
    rintro e w8 ⟨rfl, b8⟩
    have B8 : Hid (Below w2.heap.size w2 w8) := B7.out.trans (b8.mono (by omega))
    have X8 : Hid (SqAt w8 q n F) := SqAt.below X7.out b8 (by have := Ia.lt X7.out; omega)
    have A8 : SqAt w8 (b + 1) 0 (fun _ _ => 0) := SqAt.below Z2.out B8.out (by omega)
    have ZZ := Lib.hid A8
    clear b8 X7 HH
    obtain ⟨z, hz⟩ : ∃ z, sqB xss = z := ⟨_, rfl⟩
    rw [hz]
    have HZ := Lib.hid hz
    clear hz
    cases z with
    | false =>
      have zs := SqAt.zst A8
      have P2 := Lib.hid (SqAt.row (m := 0) (k := fun _ _ => 0) A8)
      have P3 : Hid (Below b w (w8.setRow (b + 1) (iar 101 (sqC 0 (fun _ _ => 0))))) := below_row (HB2.out.trans (B8.out.mono (by omega))) (by omega) _
      clear A8
      go_wp2
      refine bodyPost_ret (v := .tuple #[.agg (iar 101 (sqC 0 (fun _ _ => 0))), .bool false]) (results_cell_tmp Tryd.results57 _ _ _ _ _ _ _ rfl _ rfl P2.out Tryd.underlying64 rfl (by rw [iar_size]; exact Tryd.infoSq)) rfl ⟨0, fun _ _ => 0, by rw [HZ.out], (fun h => by rw [HZ.out] at h; cases h), ?_⟩
      rw [HB.out]; exact P3.out
    | true =>
      have P2 := Lib.hid (SqAt.row (m := n) (k := F) A8)
      have P3 : Hid (Below b w (w8.setRow (b + 1) (iar 101 (sqC n F)))) := below_row (HB2.out.trans (B8.out.mono (by omega))) (by omega) _
      have st2 := Ia.stores (d := sqC n F) A8
      clear A8
      go_wp2_with (refine wpList_load_row rfl 64 (.tmp 5) rfl _ rfl _ _ _ _ X8.out Tryd.underlying64 rfl (by rw [iar_size]; exact Tryd.infoSq) ?_)
      refine bodyPost_ret (v := .tuple #[.agg (iar 101 (sqC n F)), .bool true]) (results_cell_tmp Tryd.results57 _ _ _ _ _ _ _ rfl _ rfl P2.out Tryd.underlying64 rfl (by rw [iar_size]; exact Tryd.infoSq)) rfl ⟨n, F, by rw [HZ.out], (fun _ => ⟨rfl, HHF.out.symm⟩), ?_⟩
      rw [HB.out]; exact P3.out
end Go.Proofs.YtigcgpgkpkoodaaDoor
