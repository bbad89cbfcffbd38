/- Sums of elements, by the program: differences, and what combines. -/
import Derived.Test.YtmlcdbjibngnkaaEi
namespace Go.Proofs.Ytmlcdbjibngnkaa
open Go.RowKit
set_option linter.unusedVariables false

theorem Ff.all {w : World} {g : Nat} {P K s : Int} {c : Co} (h : Ff w g P K s c) : w.cell? ⟨g, 0, none⟩ = some (.int .i64 P) ∧ w.cell? ⟨g, 1, none⟩ = some (.int .i64 K) ∧ w.cell? ⟨g, 2, none⟩ = some (.int .i64 s) ∧ w.cell? ⟨g, 3, none⟩ = some (.int .i64 (c 0)) ∧ w.cell? ⟨g, 4, none⟩ = some (.int .i64 (c 1)) ∧ w.cell? ⟨g, 5, none⟩ = some (.int .i64 (c 2)) ∧ w.cell? ⟨g, 6, none⟩ = some (.int .i64 (c 3)) ∧ w.cell? ⟨g, 7, none⟩ = some (.int .i64 (c 4)) ∧ w.cell? ⟨g, 8, none⟩ = some (.int .i64 (c 5)) ∧ w.cell? ⟨g, 9, none⟩ = some (.int .i64 (c 6)) ∧ w.cell? ⟨g, 10, none⟩ = some (.int .i64 (c 7)) ∧ w.cell? ⟨g, 11, none⟩ = some (.int .i64 (c 8)) ∧ w.cell? ⟨g, 12, none⟩ = some (.int .i64 (c 9)) ∧ w.cell? ⟨g, 13, none⟩ = some (.int .i64 (c 10)) ∧ w.cell? ⟨g, 14, none⟩ = some (.int .i64 (c 11)) :=
  ⟨by rw [cell_of_row w g 0 _ _ _ h]; rfl, by rw [cell_of_row w g 1 _ _ _ h]; rfl, by rw [cell_of_row w g 2 _ _ _ h]; rfl, by rw [cell_of_row w g 3 _ _ _ h]; rfl, by rw [cell_of_row w g 4 _ _ _ h]; rfl, by rw [cell_of_row w g 5 _ _ _ h]; rfl, by rw [cell_of_row w g 6 _ _ _ h]; rfl, by rw [cell_of_row w g 7 _ _ _ h]; rfl, by rw [cell_of_row w g 8 _ _ _ h]; rfl, by rw [cell_of_row w g 9 _ _ _ h]; rfl, by rw [cell_of_row w g 10 _ _ _ h]; rfl, by rw [cell_of_row w g 11 _ _ _ h]; rfl, by rw [cell_of_row w g 12 _ _ _ h]; rfl, by rw [cell_of_row w g 13 _ _ _ h]; rfl, by rw [cell_of_row w g 14 _ _ _ h]; rfl⟩
theorem Ff.next {w w' : World} {g : Nat} {P K s : Int} {c : Co} (h : Ff w g P K s c) (hb : Below w.heap.size w w') : Ff w' g P K s c := (hb.block g h.lt).trans h

set_option maxHeartbeats 1000000 in
theorem isub (p k : Nat) (s : Int) (c : Co) (a b : Nat) (w : World) (hp : 2 ≤ p) (hp' : p ≤ 64) (hk : k ≤ 6) (hq : p ^ k ≤ 64) (ha : a < p ^ k) (hb : b < p ^ k) :
    Calls Try.prog 77 #[.agg (ffv p k s c), .int .i64 a, .int .i64 b] w fun e w' => e = .returned (.int .i64 (fsub p k a b)) ∧ Below w.heap.size w w' := by
  have S0 := Sf.start w p k s c
  have RA := Lib.hid (dg_rd p a k (by omega) ha)
  have RB := Lib.hid (dg_rd p b k (by omega) hb)
  have HA := Lib.hid (fun W : World => polyOf a p W hp hp' (by omega))
  have HB := Lib.hid (fun W : World => polyOf b p W hp hp' (by omega))
  have HP := Lib.hid (fun W : World => polyMinus p (dg p a) (dg p b) W hp hp' (fun i => ⟨(RA.out i).1, (RA.out i).2.1⟩) (fun i => ⟨(RB.out i).1, (RB.out i).2.1⟩))
  have RS : Rd p k (fun i => (dg p a i - dg p b i) % p) := fun i => ⟨Int.emod_nonneg _ (by omega), Int.emod_lt_of_pos _ (by omega), fun hi => by
    show (dg p a i - dg p b i) % (p : Int) = 0
    rw [(RA.out i).2.2 hi, (RB.out i).2.2 hi]; simp⟩
  have HN := Lib.hid (fun W : World => polyNum p k _ W hp hp' RS hq (by omega))
  obtain ⟨q, hq'⟩ : ∃ q, ffv p k s c = q := ⟨_, rfl⟩
  have HQ := Lib.hid hq'
  rw [hq'] at S0 ⊢
  clear RS ha hb hq hq'
  go_enter Try.func77, Try.ntmps77
  go_wp2
  have S1 := Sf.drew S0
  go_region_held3 (fun w' => w'.cell? ⟨w.heap.size, 0, none⟩ = some (.int .i64 p) ∧ w'.cell? ⟨w.heap.size, 1, none⟩ = some (.int .i64 k) ∧ Hid (Sf w w.heap.size p k s c w')) (first | exact heldf (by assumption))
    (first | (go_at_call 93; (first | (with_reducible refine (HA.out _).mono ?_) | (with_reducible refine (HB.out _).mono ?_)); rintro e w4 ⟨rfl, b4⟩; have S4 := Sf.next (by assumption) b4) | (go_at_call 102; refine (HP.out _).mono ?_; rintro e w4 ⟨rfl, b4⟩; have S4 := Sf.next (by assumption) b4) | (go_at_call 96; refine (HN.out _).mono ?_; rintro e w4 ⟨rfl, b4⟩; have S4 := Sf.next (by assumption) b4; have SB := Lib.hid S4.out.2))
  all_goals go_wp2
  all_goals go_ret
  all_goals exact ⟨rfl, SB.out⟩

theorem run_enter {P : Program} {f : FuncId} {fn : Func} (hf : P.funcs[f]? = some fn) (hname : (fn.name == "runtime.NumGoroutine") = false) (hb : fn.body.isSome = true) (args : Array Value) (w : World) :
    (callFunc f args).run P w = .ok (.enter f args) w := by
  have h1 : fn.name ≠ "runtime.NumGoroutine" := by simpa using hname
  obtain ⟨c, hc⟩ := Option.isSome_iff_exists.1 hb
  simp [callFunc, hf, h1, hc]
theorem ffv_lit (P K s : Int) (c : Co) : ffv P K s c = #[.int .i64 P, .int .i64 K, .int .i64 s, .int .i64 (c 0), .int .i64 (c 1), .int .i64 (c 2), .int .i64 (c 3), .int .i64 (c 4), .int .i64 (c 5), .int .i64 (c 6), .int .i64 (c 7), .int .i64 (c 8), .int .i64 (c 9), .int .i64 (c 10), .int .i64 (c 11)] := rfl

set_option maxHeartbeats 1000000 in
/-- A function on elements, called behind the test. -/
theorem comb (P K x0 x1 : Int) (xs : List Int) (v : Value) (w : World) (hv : IntsAt w v xs) (F : FuncId) (r : Int) (fn : Func) (hfn : Try.prog.funcs[F]? = some fn) (hname : (fn.name == "runtime.NumGoroutine") = false) (hbody : fn.body.isSome = true)
    (hF : hasB P K xs x0 x1 = true → ∀ W : World, Calls Try.prog F #[.agg (ffv P K (fsz P K) (cofs xs)), .int .i64 x0, .int .i64 x1] W fun e w' => e = .returned (.int .i64 r) ∧ Below W.heap.size W w') :
    Calls Try.prog 75 #[.agg #[.int .i64 P, .int .i64 K, v], .int .i64 x0, .int .i64 x1, .func (.func F) #[] #[]] w fun e w' => e = .returned (.int .i64 (if hasB P K xs x0 x1 = true then r else -1)) ∧ Below w.heap.size w w' := by
  have B1 : Hid (Below w.heap.size w (w.alloc (.cells #[.int .i64 P, .int .i64 K, v] 25))) := (Below.refl _ _).alloc (Nat.le_refl _) _
  obtain ⟨c, hc, hs, h1, hcv⟩ := ffAns_shape P K xs
  have HS := Lib.hid (ffOf P K xs v (w.alloc (.cells #[.int .i64 P, .int .i64 K, v] 25)) (hv.below B1.out (Nat.le_refl _)))
  rw [hc] at HS
  have hst := fun W : World => Try.storesFf W c hs h1
  obtain ⟨a, n, cap, rfl⟩ := fld_slice hv
  have hcf := fun (args : Array Value) (W : World) => run_enter hfn hname hbody args W
  clear hv hc h1 hfn hname hbody
  by_cases hk : fok P K xs = true
  · rw [hk] at HS
    have hcv' := hcv hk
    have HC := Lib.hid hcv'
    obtain ⟨s, hs'⟩ : ∃ s, fsz P K = s := ⟨_, rfl⟩
    have HH := Lib.hid (fun (W : World) (a : Int) => ihas P K s (cofs xs) a W)
    have EV : Hid (hasB P K xs x0 x1 = (decide (0 ≤ x0 ∧ x0 < s) && decide (0 ≤ x1 ∧ x1 < s))) := by unfold Hid hasB; rw [hk, Bool.true_and, hs']
    rw [hs'] at hF HC
    clear hs' hcv hcv' hk
    have FN : Hid (∀ W : World, Ff (W.alloc (.cells c 57)) W.heap.size P K s (cofs xs)) := fun W => by rw [HC.out]; exact Ff.new _ _ _ _ _
    by_cases g0 : 0 ≤ x0 ∧ x0 < s
    · have HA := Lib.hid (fun W : World => HH.out W x0)
      rw [decide_eq_true g0] at HA EV
      by_cases g1 : 0 ≤ x1 ∧ x1 < s
      · have HB := Lib.hid (fun W : World => HH.out W x1)
        rw [decide_eq_true g1] at HB EV
        have HF := Lib.hid (hF (by rw [EV.out]; rfl))
        rw [show hasB P K xs x0 x1 = true by rw [EV.out]; rfl, if_pos rfl]
        simp only [ffv_lit] at HA HB HF
        clear hF g0 g1 EV HH
        go_enter Try.func75, Try.ntmps75
        go_upto_region 2 with (go_at_call 59; refine HS.out.mono ?_; rintro e w2 ⟨rfl, b2⟩; have B2 := Lib.hid (B1.out.trans (b2.mono B1.out.size)); clear b2)
        have F3 := Lib.hid (FN.out w2)
        have B3 : Hid (Below w.heap.size w (w2.alloc (.cells c 57))) := B2.out.alloc B2.out.size _
        obtain ⟨g3, hg3⟩ : ∃ g3, w2.heap.size = g3 := ⟨_, rfl⟩
        obtain ⟨w3, hw3⟩ : ∃ w3, w2.alloc (.cells c 57) = w3 := ⟨_, rfl⟩
        rw [hw3] at F3 B3 ⊢
        rw [hg3] at F3 ⊢
        clear hw3 hg3 hst
        obtain ⟨p0, p1, p2, p3, p4, p5, p6, p7, p8, p9, p10, p11, p12, p13, p14⟩ := F3.out.all
        go_upto_region 4 with (go_at_call 62; first | (with_reducible refine (HA.out _).mono ?_; rintro e w4 ⟨rfl, b4⟩; have F4 := Lib.hid (F3.out.next b4); have B4 := Lib.hid (B3.out.trans (b4.mono B3.out.size)); obtain ⟨q0, q1, q2, q3, q4, q5, q6, q7, q8, q9, q10, q11, q12, q13, q14⟩ := F4.out.all; clear b4) | (with_reducible refine (HB.out _).mono ?_; rintro e w5 ⟨rfl, b5⟩; have F5 := Lib.hid (F4.out.next b5); have B5 := Lib.hid (B4.out.trans (b5.mono B4.out.size)); obtain ⟨r0, r1, r2, r3, r4, r5, r6, r7, r8, r9, r10, r11, r12, r13, r14⟩ := F5.out.all; clear b5))
        go_wp2_with (go_at_fn F; refine (HF.out _).mono ?_; rintro e w6 ⟨rfl, b6⟩; have B6 := Lib.hid (B5.out.trans (b6.mono B5.out.size)))
        go_ret
        exact ⟨rfl, B6.out⟩
      · have HB := Lib.hid (fun W : World => HH.out W x1)
        rw [decide_eq_false g1] at HB EV
        rw [show hasB P K xs x0 x1 = false by rw [EV.out]; rfl, if_neg (by decide)]
        simp only [ffv_lit] at HA HB
        clear hF g0 g1 EV HH
        go_enter Try.func75, Try.ntmps75
        go_upto_region 2 with (go_at_call 59; refine HS.out.mono ?_; rintro e w2 ⟨rfl, b2⟩; have B2 := Lib.hid (B1.out.trans (b2.mono B1.out.size)); clear b2)
        have F3 := Lib.hid (FN.out w2)
        have B3 : Hid (Below w.heap.size w (w2.alloc (.cells c 57))) := B2.out.alloc B2.out.size _
        obtain ⟨g3, hg3⟩ : ∃ g3, w2.heap.size = g3 := ⟨_, rfl⟩
        obtain ⟨w3, hw3⟩ : ∃ w3, w2.alloc (.cells c 57) = w3 := ⟨_, rfl⟩
        rw [hw3] at F3 B3 ⊢
        rw [hg3] at F3 ⊢
        clear hw3 hg3 hst
        obtain ⟨p0, p1, p2, p3, p4, p5, p6, p7, p8, p9, p10, p11, p12, p13, p14⟩ := F3.out.all
        go_wp2_with (go_at_call 62; first | (with_reducible refine (HA.out _).mono ?_; rintro e w4 ⟨rfl, b4⟩; have F4 := Lib.hid (F3.out.next b4); have B4 := Lib.hid (B3.out.trans (b4.mono B3.out.size)); obtain ⟨q0, q1, q2, q3, q4, q5, q6, q7, q8, q9, q10, q11, q12, q13, q14⟩ := F4.out.all; clear b4) | (with_reducible refine (HB.out _).mono ?_; rintro e w5 ⟨rfl, b5⟩; have F5 := Lib.hid (F4.out.next b5); have B5 := Lib.hid (B4.out.trans (b5.mono B4.out.size)); obtain ⟨r0, r1, r2, r3, r4, r5, r6, r7, r8, r9, r10, r11, r12, r13, r14⟩ := F5.out.all; clear b5))
        go_ret
        exact ⟨rfl, B5.out⟩
    · have HA := Lib.hid (fun W : World => HH.out W x0)
      rw [decide_eq_false g0] at HA EV
      rw [show hasB P K xs x0 x1 = false by rw [EV.out]; rfl, if_neg (by decide)]
      simp only [ffv_lit] at HA
      clear hF g0 EV HH
      go_enter Try.func75, Try.ntmps75
      go_upto_region 2 with (go_at_call 59; refine HS.out.mono ?_; rintro e w2 ⟨rfl, b2⟩; have B2 := Lib.hid (B1.out.trans (b2.mono B1.out.size)); clear b2)
      have F3 := Lib.hid (FN.out w2)
      have B3 : Hid (Below w.heap.size w (w2.alloc (.cells c 57))) := B2.out.alloc B2.out.size _
      obtain ⟨g3, hg3⟩ : ∃ g3, w2.heap.size = g3 := ⟨_, rfl⟩
      obtain ⟨w3, hw3⟩ : ∃ w3, w2.alloc (.cells c 57) = w3 := ⟨_, rfl⟩
      rw [hw3] at F3 B3 ⊢
      rw [hg3] at F3 ⊢
      clear hw3 hg3 hst
      obtain ⟨p0, p1, p2, p3, p4, p5, p6, p7, p8, p9, p10, p11, p12, p13, p14⟩ := F3.out.all
      go_wp2_with (go_at_call 62; (with_reducible refine (HA.out _).mono ?_; rintro e w4 ⟨rfl, b4⟩; have F4 := Lib.hid (F3.out.next b4); have B4 := Lib.hid (B3.out.trans (b4.mono B3.out.size)); obtain ⟨q0, q1, q2, q3, q4, q5, q6, q7, q8, q9, q10, q11, q12, q13, q14⟩ := F4.out.all; clear b4))
      go_ret
      exact ⟨rfl, B4.out⟩
  · rw [Bool.not_eq_true] at hk
    rw [hk] at HS
    rw [show hasB P K xs x0 x1 = false by unfold hasB; rw [hk]; rfl, if_neg (by decide)]
    clear hk hF hcv
    go_enter Try.func75, Try.ntmps75
    go_upto_region 2 with (go_at_call 59; refine HS.out.mono ?_; rintro e w2 ⟨rfl, b2⟩; have B2 := Lib.hid (B1.out.trans (b2.mono B1.out.size)); clear b2)
    have B3 : Hid (Below w.heap.size w (w2.alloc (.cells c 57))) := B2.out.alloc B2.out.size _
    go_wp2
    go_ret
    exact ⟨rfl, B3.out⟩

theorem iFieldAdd (P K x0 x1 : Int) (xs : List Int) (v : Value) (w : World) (hv : IntsAt w v xs) :
    Calls Try.prog 41 #[.agg #[.int .i64 P, .int .i64 K, v], .int .i64 x0, .int .i64 x1] w fun e w' => e = .returned (.int .i64 (aAdd P K x0 x1 xs)) ∧ Below w.heap.size w w' := by
  have B1 : Hid (Below w.heap.size w (w.alloc (.cells #[.int .i64 P, .int .i64 K, v] 25))) := (Below.refl _ _).alloc (Nat.le_refl _) _
  have HC := Lib.hid (comb P K x0 x1 xs v (w.alloc (.cells #[.int .i64 P, .int .i64 K, v] 25)) (hv.below B1.out (Nat.le_refl _)) 76 (aAdd P K x0 x1 xs) Try.f76 Try.func76 (by kernel_rfl) (by kernel_rfl) (fun hk W => by
    obtain ⟨p, k, x, y, rfl, rfl, rfl, rfl, h, hx, hy⟩ := has_int hk
    have hb := h.bd
    have := iadd p k (fsz p k) (cofs xs) x y W hb.1 hb.2.1 hb.2.2 h.2.2.1 hx hy
    unfold aAdd
    rw [if_pos hk]
    simpa only [Int.toNat_natCast] using this))
  have E : Hid ((if hasB P K xs x0 x1 = true then aAdd P K x0 x1 xs else -1) = aAdd P K x0 x1 xs) := by
    unfold Hid aAdd
    split <;> rfl
  rw [E.out] at HC
  obtain ⟨a, n, cap, rfl⟩ := fld_slice hv
  clear hv
  go_enter Try.func41, Try.ntmps41
  go_wp2_with (go_at_call 75; refine HC.out.mono ?_; rintro e w2 ⟨rfl, b2⟩; have B2 := Lib.hid (B1.out.trans (b2.mono B1.out.size)))
  go_ret
  exact ⟨rfl, B2.out⟩

theorem iFieldSub (P K x0 x1 : Int) (xs : List Int) (v : Value) (w : World) (hv : IntsAt w v xs) :
    Calls Try.prog 43 #[.agg #[.int .i64 P, .int .i64 K, v], .int .i64 x0, .int .i64 x1] w fun e w' => e = .returned (.int .i64 (aSub P K x0 x1 xs)) ∧ Below w.heap.size w w' := by
  have B1 : Hid (Below w.heap.size w (w.alloc (.cells #[.int .i64 P, .int .i64 K, v] 25))) := (Below.refl _ _).alloc (Nat.le_refl _) _
  have HC := Lib.hid (comb P K x0 x1 xs v (w.alloc (.cells #[.int .i64 P, .int .i64 K, v] 25)) (hv.below B1.out (Nat.le_refl _)) 77 (aSub P K x0 x1 xs) Try.f77 Try.func77 (by kernel_rfl) (by kernel_rfl) (fun hk W => by
    obtain ⟨p, k, x, y, rfl, rfl, rfl, rfl, h, hx, hy⟩ := has_int hk
    have hb := h.bd
    have := isub p k (fsz p k) (cofs xs) x y W hb.1 hb.2.1 hb.2.2 h.2.2.1 hx hy
    unfold aSub
    rw [if_pos hk]
    simpa only [Int.toNat_natCast] using this))
  have E : Hid ((if hasB P K xs x0 x1 = true then aSub P K x0 x1 xs else -1) = aSub P K x0 x1 xs) := by
    unfold Hid aSub
    split <;> rfl
  rw [E.out] at HC
  obtain ⟨a, n, cap, rfl⟩ := fld_slice hv
  clear hv
  go_enter Try.func43, Try.ntmps43
  go_wp2_with (go_at_call 75; refine HC.out.mono ?_; rintro e w2 ⟨rfl, b2⟩; have B2 := Lib.hid (B1.out.trans (b2.mono B1.out.size)))
  go_ret
  exact ⟨rfl, B2.out⟩

end Go.Proofs.Ytmlcdbjibngnkaa
