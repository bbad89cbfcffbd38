/- Whether a design is valid, by the model. -/
import Derived.Test.YtdhlnagkhkcoiaaDoorDm
import Derived.Test.YtdhlnagkhkcoiaaDoorRowA
import Derived.Test.YtdhlnagkhkcoiaaDoorSqs
namespace Go.Proofs.YtdhlnagkhkcoiaaDoor
open Go.RowKit Go.Shelf
set_option linter.unusedVariables false

noncomputable def blkB (n : Int) (xs : List Int) : Bool := @decide (isBlk n xs) (Classical.propDecidable _)
theorem blkB_true {n : Int} {xs : List Int} (h : isBlk n xs) : blkB n xs = true := @decide_eq_true _ (Classical.propDecidable _) h
theorem blkB_false {n : Int} {xs : List Int} (h : ¬ isBlk n xs) : blkB n xs = false := @decide_eq_false _ (Classical.propDecidable _) h
theorem of_blkB {n : Int} {xs : List Int} (h : blkB n xs = true) : isBlk n xs := @of_decide_eq_true _ (Classical.propDecidable _) h
theorem not_blkB {n : Int} {xs : List Int} (h : blkB n xs = false) : ¬ isBlk n xs := fun hd => by rw [blkB_true hd] at h; cases h

theorem IntsAt.ofHeap {w W : World} {v : Value} {xs : List Int} (h : IntsAt w v xs) (e : W.heap = w.heap) : IntsAt W v xs := by
  obtain ⟨h1, h2 | ⟨g, off, cap, rfl, hc⟩⟩ := h
  · exact ⟨h1, .inl h2⟩
  · exact ⟨h1, .inr ⟨g, off, cap, rfl, fun j hj => by rw [← hc j hj]; unfold World.cell?; rw [e]⟩⟩

set_option maxHeartbeats 1000000 in
theorem sBlk (n : Int) (h1 : 1 ≤ n) (h2 : n ≤ 32) (xs : List Int) (w : World) (v : Value) (hv : IntsAt w v xs) :
    Calls Tryd.prog 56 #[v, .int .i64 n] w fun e w' => e = .returned (.bool (blkB n xs)) ∧ ∃ d, w' = w.drewN d := by
  have HR := Lib.hid (srises w v xs 0 (n - 1) hv)
  have wn := IntWalk.i64_in (n - 1) (by omega)
  obtain ⟨a, cap, rfl, -, -⟩ := hv.shape
  obtain ⟨m, hm⟩ : ∃ m, xs.length = m := ⟨_, rfl⟩
  rw [hm] at HR ⊢
  by_cases z : m = 0
  · have t1 : decide ((m : Int) > 0) = false := decide_eq_false (by omega)
    have t2 : decide ((0 : Int) < (m : Int)) = false := decide_eq_false (by omega)
    have t3 : decide (0 < m) = false := decide_eq_false (by omega)
    have V : Hid (blkB n xs = false) := blkB_false fun h => by have := h.1; omega
    clear hv hm
    go_enter Tryd.func56, Tryd.ntmps56
    go_wp2
    go_ret
    exact ⟨by rw [V.out]; rfl, 0, rfl⟩
  · have t1 : decide ((m : Int) > 0) = true := decide_eq_true (by omega)
    have t2 : decide ((0 : Int) < (m : Int)) = true := decide_eq_true (by omega)
    have t3 : decide (0 < m) = true := decide_eq_true (by omega)
    have V : Hid (risesB 0 (n - 1) xs = blkB n xs) := by
      cases e : risesB 0 (n - 1) xs with
      | true => exact (blkB_true ⟨by omega, of_risesB e⟩).symm
      | false => exact (blkB_false fun h => by rw [risesB_true h.2] at e; cases e).symm
    clear hv hm
    go_enter Tryd.func56, Tryd.ntmps56
    go_wp2_with fail
    refine HR.out.mono ?_
    rintro e w2 ⟨rfl, d, rfl⟩
    rw [V.out]
    go_wp2
    go_ret
    exact ⟨rfl, d, rfl⟩

set_option maxRecDepth 100000 in
set_option maxHeartbeats 1000000 in
theorem sOk (n : Int) (xss : List (List Int)) (w : World) (v : Value) (g : Nat) (c0 : w.cell? ⟨g, 0, none⟩ = some (.int .i64 n)) (c1 : w.cell? ⟨g, 1, none⟩ = some v) (hv : RowsAt w v xss) :
    Calls Tryd.prog 34 #[.pointer (some ⟨g, 0, none⟩)] w fun e w' => e = .returned (.bool (desB n xss)) ∧ ∃ d, w' = w.drewN d := by
  obtain ⟨a, cap, rfl, hc⟩ := hv.shape
  have hml := hv.1
  obtain ⟨m, hm⟩ : ∃ m, xss.length = m := ⟨_, rfl⟩
  rw [hm] at c1 hc hml
  have NR : Hid (¬ (1 ≤ n ∧ n ≤ 32) → desB n xss = false) := fun h => desB_false fun d => h ⟨d.1, d.2.1⟩
  have NM : Hid (128 < m → desB n xss = false) := fun h => desB_false fun d => by have := d.2.2.1; omega
  have NO : Hid (∀ i, i < m → ¬ desAt n xss i → desB n xss = false) := fun i hi h => desB_false fun d => h (d.2.2.2 i (by omega))
  have YES : Hid (1 ≤ n ∧ n ≤ 32 → m ≤ 128 → (∀ i, i < m → desAt n xss i) → desB n xss = true) := fun h1 h2 h3 => desB_true ⟨h1.1, h1.2, by omega, fun i hi => h3 i (by omega)⟩
  obtain ⟨V, hV⟩ : ∃ V, desB n xss = V := ⟨_, rfl⟩
  rw [hV] at NR NM NO YES ⊢
  have HC := Lib.hid hc
  have HN := Lib.hid (in_any n 1 32 w)
  clear hv hc hV
  by_cases r : 1 ≤ n ∧ n ≤ 32
  · rw [decide_eq_true r] at HN
    by_cases k : 128 < m
    · have t1 : decide ((m : Int) > 128) = true := decide_eq_true (by omega)
      have t2 : decide ((128 : Int) < (m : Int)) = true := decide_eq_true (by omega)
      have t3 : decide (128 < m) = true := decide_eq_true k
      have V2 := Lib.hid (NM.out k)
      clear r
      go_enter Tryd.func34, Tryd.ntmps34
      go_wp2_with fail
      refine HN.out.mono ?_
      rintro e w2 ⟨rfl, rfl⟩
      go_wp2
      go_ret
      exact ⟨by rw [V2.out]; rfl, 0, rfl⟩
    · have t1 : decide ((m : Int) > 128) = false := decide_eq_false (by omega)
      have t2 : decide ((128 : Int) < (m : Int)) = false := decide_eq_false (by omega)
      have t3 : decide (128 < m) = false := decide_eq_false k
      have YY := Lib.hid (YES.out r (by omega))
      have HB := Lib.hid (fun W u xs (h : IntsAt W u xs) => sBlk n r.1 r.2 xs W u h)
      have HCM := Lib.hid (fun W u u' xs ys (h : IntsAt W u xs) (h' : IntsAt W u' ys) => scmp W u u' xs ys h h')
      clear r NR NM YES
      go_enter Tryd.func34, Tryd.ntmps34
      go_wp2_with fail
      refine HN.out.mono ?_
      rintro e w2 ⟨rfl, rfl⟩
      clear HN
      go_wp2
      go_loopw [3] (fun i wr => ∃ j : Nat, j ≤ m ∧ i = .int .i64 j ∧ Hid (∀ i, i < j → desAt n xss i) ∧ ∃ d, wr = w.drewN d) (fun i _ => m - (intOf i).toNat)
      case atStart => exact ⟨0, by omega, rfl, fun i h => by omega, 0, rfl⟩
      case round =>
        obtain ⟨j, hj, rfl, hP, d, rfl⟩ := hrel
        by_cases c : j < m
        · have k1 : decide (j < m) = true := by simpa using c
          have k1' : decide ((j : Int) < (m : Int)) = true := decide_eq_true (by omega)
          have w3 := IntWalk.i64_in ((j : Int) + 1) (by omega)
          have j0 : (0 : Int) ≤ (j : Int) := by omega
          have j1 : (j : Int) < (m : Int) := by omega
          obtain ⟨g1, o1, u, ha, hu, hi⟩ := HC.out j c
          subst ha
          have NJ := Lib.hid (NO.out j c)
          have DA : Hid (desAt n xss j ↔ isBlk n (xss.getD j []) ∧ (0 < j → ¬ 0 < cmpL (xss.getD (j - 1) []) (xss.getD j []))) := Iff.rfl
          obtain ⟨r, hr⟩ : ∃ r, xss.getD j [] = r := ⟨_, rfl⟩
          rw [hr] at hi DA
          obtain ⟨ua, uc, rfl, -, -⟩ := hi.shape
          obtain ⟨l, hl⟩ : ∃ l, r.length = l := ⟨_, rfl⟩
          rw [hl] at hi hu
          have X1 := Lib.hid (fun (W : World) (e : W.heap = w.heap) => hi.ofHeap e)
          have HBJ := Lib.hid (fun W h => HB.out W (.slice ua l uc) r h)
          cases hq : blkB n r with
          | false =>
            have V2 := Lib.hid (NJ.out (fun h => not_blkB hq ((DA.out.1 h).1)))
            simp only [hq] at HBJ
            clear hq hi hr hl
            go_wp2
            go_quiet ((go_at_call 56; first | exact Calls.quiet_of (HBJ.out _ (X1.out _ rfl)) | exact quiet_drew2 (HBJ.out _ (X1.out _ rfl))))
            go_wp2
            go_ret
            exact ⟨by rw [V2.out]; rfl, _, by first | rfl | exact World.drewN_drewN _ _ _⟩
          | true =>
            simp only [hq] at HBJ
            have bk := of_blkB hq
            by_cases z : j = 0
            · have q1 : decide ((j : Int) > 0) = false := decide_eq_false (by omega)
              have q2 : decide ((0 : Int) < (j : Int)) = false := decide_eq_false (by omega)
              have q3 : decide (0 < j) = false := decide_eq_false (by omega)
              have P2 : Hid (∀ i, i < j + 1 → desAt n xss i) := fun i hi => by
                obtain rfl : i = j := by omega
                exact DA.out.2 ⟨bk, fun h => by omega⟩
              clear hq hi hr bk hl z
              go_wp2
              go_quiet ((go_at_call 56; first | exact Calls.quiet_of (HBJ.out _ (X1.out _ rfl)) | exact quiet_drew2 (HBJ.out _ (X1.out _ rfl))))
              go_wp2
              go_roundw
              case rel => exact ⟨j + 1, by omega, by go_num, P2, _, by first | rfl | exact World.drewN_drewN _ _ _⟩
              case measure => simp [intOf]; omega
            · have q1 : decide ((j : Int) > 0) = true := decide_eq_true (by omega)
              have q2 : decide ((0 : Int) < (j : Int)) = true := decide_eq_true (by omega)
              have q3 : decide (0 < j) = true := decide_eq_true (by omega)
              have e3 : IntKind.i64.wrap ((j : Int) - 1) = (j : Int) - 1 := IntWalk.i64_in _ (by omega)
              have e4 : ((j : Int) - 1).toNat = j - 1 := by omega
              have e6 : (j : Int) - 1 < (m : Int) := by omega
              have e7 : (0 : Int) ≤ (j : Int) - 1 := by omega
              obtain ⟨g2, o2, u2, ha, hu2, hi2⟩ := HC.out (j - 1) (by omega)
              simp only [Option.some.injEq, Addr.mk.injEq] at ha
              obtain ⟨rfl, rfl, -⟩ := ha
              obtain ⟨r2, hr2⟩ : ∃ r, xss.getD (j - 1) [] = r := ⟨_, rfl⟩
              rw [hr2] at hi2 DA
              obtain ⟨ub, ud, rfl, -, -⟩ := hi2.shape
              obtain ⟨l2, hl2⟩ : ∃ l, r2.length = l := ⟨_, rfl⟩
              rw [hl2] at hi2 hu2
              have Y1 := Lib.hid (fun (W : World) (e : W.heap = w.heap) => hi2.ofHeap e)
              have HCJ := Lib.hid (fun W h h' => HCM.out W (.slice ub l2 ud) (.slice ua l uc) r2 r h h')
              obtain ⟨x, hx⟩ : ∃ x, cmpL r2 r = x := ⟨_, rfl⟩
              simp only [hx] at HCJ DA
              by_cases y : 0 < x
              · have y1 : decide (x > 0) = true := decide_eq_true y
                have y2 : decide (0 < x) = true := decide_eq_true y
                have V2 := Lib.hid (NJ.out (fun h => ((DA.out.1 h).2 (by omega)) y))
                clear hq hi hi2 hr hr2 hx bk hl hl2
                go_wp2
                go_quiet (first | (go_at_call 56; first | exact Calls.quiet_of (HBJ.out _ (X1.out _ rfl)) | exact quiet_drew2 (HBJ.out _ (X1.out _ rfl))) | (go_at_call 57; first | exact Calls.quiet_of (HCJ.out _ (Y1.out _ rfl) (X1.out _ rfl)) | exact quiet_drew2 (HCJ.out _ (Y1.out _ rfl) (X1.out _ rfl))))
                go_wp2
                go_ret
                exact ⟨by rw [V2.out]; rfl, _, by first | rfl | exact World.drewN_drewN _ _ _⟩
              · have y1 : decide (x > 0) = false := decide_eq_false y
                have y2 : decide (0 < x) = false := decide_eq_false y
                have P2 : Hid (∀ i, i < j + 1 → desAt n xss i) := fun i hi => by
                  by_cases e : i = j
                  · rw [e]; exact DA.out.2 ⟨bk, fun _ => y⟩
                  · exact hP.out i (by omega)
                clear hq hi hi2 hr hr2 hx bk hl hl2
                go_wp2
                go_quiet (first | (go_at_call 56; first | exact Calls.quiet_of (HBJ.out _ (X1.out _ rfl)) | exact quiet_drew2 (HBJ.out _ (X1.out _ rfl))) | (go_at_call 57; first | exact Calls.quiet_of (HCJ.out _ (Y1.out _ rfl) (X1.out _ rfl)) | exact quiet_drew2 (HCJ.out _ (Y1.out _ rfl) (X1.out _ rfl))))
                go_wp2
                go_roundw
                case rel => exact ⟨j + 1, by omega, by go_num, P2, _, by first | rfl | exact World.drewN_drewN _ _ _⟩
                case measure => simp [intOf]; omega
        · have k1 : decide (j < m) = false := by simpa using c
          have k1' : decide ((j : Int) < (m : Int)) = false := decide_eq_false (by omega)
          obtain rfl : j = m := by omega
          have V2 := Lib.hid (YY.out hP.out)
          go_wp2
          go_ret
          exact ⟨by rw [V2.out]; rfl, _, rfl⟩
  · rw [decide_eq_false r] at HN
    have V2 := Lib.hid (NR.out r)
    clear r
    go_enter Tryd.func34, Tryd.ntmps34
    go_wp2_with fail
    refine HN.out.mono ?_
    rintro e w2 ⟨rfl, rfl⟩
    go_wp2
    go_ret
    exact ⟨by rw [V2.out]; rfl, 0, rfl⟩
end Go.Proofs.YtdhlnagkhkcoiaaDoor
