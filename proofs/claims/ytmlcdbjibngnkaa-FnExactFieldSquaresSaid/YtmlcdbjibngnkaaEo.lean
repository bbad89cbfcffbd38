/- Orders and the primitive element, by the program. -/
import Derived.Test.YtmlcdbjibngnkaaEq
import Derived.Test.YtmlcdbjibngnkaaEr
import Derived.Great.Walk
namespace Go.Proofs.Ytmlcdbjibngnkaa
open Go.RowKit
set_option linter.unusedVariables false
set_option linter.unusedSimpArgs false

theorem ffv_size (P K s : Int) (c : Co) : (ffv P K s c).size = 15 := rfl
theorem Try.infoFfv (P K s : Int) (c : Co) : (Try.prog.info? 57).map (·.size) = some (ffv P K s c).size := by rw [ffv_size]; exact Try.infoFf
theorem imulN (p k : Nat) (xs : List Int) (a b : Nat) (w : World) (h : FOk p k xs) (ha : a < p ^ k) (hb : b < p ^ k) :
    Calls Try.prog 61 #[.agg (ffv p k (p ^ k : Nat) (cofs xs)), .int .i64 a, .int .i64 b] w fun e w' => e = .returned (.int .i64 (fm p k (cofs xs) a b : Nat)) ∧ Below w.heap.size w w' := by
  have hb' := h.bd
  rw [← fm_cast (Fp.of h)]
  exact imul p k _ (cofs xs) a b w hb'.1 hb'.2.1 h.2.1 hb'.2.2 h.2.2.1 h.rd h.2.2.2.2.1 ha hb

set_option maxHeartbeats 1000000 in
theorem iorder (p k a : Nat) (xs : List Int) (w : World) (h : FOk p k xs) (h1 : 1 ≤ a) (ha : a < p ^ k) :
    Calls Try.prog 63 #[.agg (ffv p k (p ^ k : Nat) (cofs xs)), .int .i64 a] w fun e w' => e = .returned (.int .i64 (ordF p k (cofs xs) a : Nat)) ∧ Below w.heap.size w w' := by
  obtain ⟨r, hr⟩ := has_root h
  have hF := Lib.hid (Fp.of h)
  have hb := h.bd
  have hq := h.2.2.1
  obtain ⟨⟨o1, o2, o3⟩, o4⟩ := ordF_is (ord_ex (Fp.of h) hr a h1 ha)
  have HM := Lib.hid (fun (x : Nat) (W : World) (hx : x < p ^ k) => imulN p k xs x a W h hx ha)
  have S0 := Sf.start w p k (p ^ k : Nat) (cofs xs)
  have hi := Try.infoFfv p k (p ^ k : Nat) (cofs xs)
  obtain ⟨c, hc⟩ : ∃ c, ffv p k (p ^ k : Nat) (cofs xs) = c := ⟨_, rfl⟩
  have FC : Hid (∀ W, Ff W w.heap.size p k (p ^ k : Nat) (cofs xs) → W.heap[w.heap.size]? = some (.cells c 57 (0, 0))) := fun W hW => by rw [← hc]; exact hW
  rw [hc] at S0 HM hi ⊢
  obtain ⟨o, ho⟩ : ∃ o, ordF p k (cofs xs) a = o := ⟨_, rfl⟩
  rw [ho] at o1 o2 o3 o4 ⊢
  have O2 := Lib.hid o2
  have O3 := Lib.hid o3
  have HI := Lib.hid hi
  have P1 : Hid (pw p k (cofs xs) a 1 = a) := pw_one (Fp.of h) a ha
  clear hr o2 o3 ho h hc hi
  go_enter Try.func63, Try.ntmps63
  go_wp2
  go_loopw [5, 6] (fun n x wr => ∃ j y : Nat, 1 ≤ j ∧ j ≤ o ∧ n = .int .i64 j ∧ x = .int .i64 y ∧ Hid (y = pw p k (cofs xs) a j) ∧ Hid (Sf w w.heap.size p k (p ^ k : Nat) (cofs xs) wr)) (fun n _ _ => o - (intOf n).toNat)
  case atStart => exact ⟨1, a, by omega, by omega, rfl, rfl, P1.out.symm, S0⟩
  case round =>
    obtain ⟨j, y, j1, j2, rfl, rfl, hy, hS⟩ := hrel
    by_cases c : j = o
    · have t0 : y = 1 := by rw [hy.out, c, O2.out]
      have t1 : ((y : Int) != 1) = false := by rw [t0]; rfl
      subst c
      clear hy t0
      go_wp2
      go_ret
      exact ⟨rfl, hS.out.2⟩
    · have t0 : y ≠ 1 := by rw [hy.out]; exact O3.out j j1 (by omega)
      have t1 : ((y : Int) != 1) = true := by simp; omega
      have hyl : y < p ^ k := by rw [hy.out]; exact pw_lt hF.out a j
      have w1 := wrapk' (n := (j : Int) + 1) (by omega)
      clear t0
      go_upto_region 4 with fail
      refine wp_region_list ?_
      refine wpList_load_row rfl 57 (.tmp 2) rfl _ rfl _ _ _ _ (FC.out _ hS.out.1) Try.underlying57 rfl HI.out ?_
      go_wp2_with (go_at_call 61; refine (HM.out y _ hyl).mono ?_; rintro e w2 ⟨rfl, b2⟩; have S2 := Sf.next hS b2; clear b2)
      go_roundw
      case rel => exact ⟨j + 1, _, by omega, by omega, by go_num, rfl, by rw [hy.out]; rfl, S2⟩
      case measure => simp [intOf]; omega

theorem held_ff {w : World} {P K s : Int} {c : Co} {w' : World} (h : Hid (Sf w w.heap.size P K s c w')) : w'.cell? ⟨w.heap.size, 0, none⟩ = some (.int .i64 P) ∧ w'.cell? ⟨w.heap.size, 1, none⟩ = some (.int .i64 K) ∧ w'.cell? ⟨w.heap.size, 2, none⟩ = some (.int .i64 s) ∧ w'.cell? ⟨w.heap.size, 3, none⟩ = some (.int .i64 (c 0)) ∧ w'.cell? ⟨w.heap.size, 4, none⟩ = some (.int .i64 (c 1)) ∧ w'.cell? ⟨w.heap.size, 5, none⟩ = some (.int .i64 (c 2)) ∧ w'.cell? ⟨w.heap.size, 6, none⟩ = some (.int .i64 (c 3)) ∧ w'.cell? ⟨w.heap.size, 7, none⟩ = some (.int .i64 (c 4)) ∧ w'.cell? ⟨w.heap.size, 8, none⟩ = some (.int .i64 (c 5)) ∧ w'.cell? ⟨w.heap.size, 9, none⟩ = some (.int .i64 (c 6)) ∧ w'.cell? ⟨w.heap.size, 10, none⟩ = some (.int .i64 (c 7)) ∧ w'.cell? ⟨w.heap.size, 11, none⟩ = some (.int .i64 (c 8)) ∧ w'.cell? ⟨w.heap.size, 12, none⟩ = some (.int .i64 (c 9)) ∧ w'.cell? ⟨w.heap.size, 13, none⟩ = some (.int .i64 (c 10)) ∧ w'.cell? ⟨w.heap.size, 14, none⟩ = some (.int .i64 (c 11)) ∧ Hid (Sf w w.heap.size P K s c w') := by
  obtain ⟨p0, p1, p2, p3, p4, p5, p6, p7, p8, p9, p10, p11, p12, p13, p14⟩ := h.out.1.all
  exact ⟨p0, p1, p2, p3, p4, p5, p6, p7, p8, p9, p10, p11, p12, p13, p14, h⟩

set_option maxHeartbeats 1000000 in
theorem iprimitive (p k : Nat) (xs : List Int) (w : World) (h : FOk p k xs) :
    Calls Try.prog 60 #[.agg (ffv p k (p ^ k : Nat) (cofs xs))] w fun e w' => e = .returned (.int .i64 (primF p k (cofs xs) : Nat)) ∧ Below w.heap.size w w' := by
  obtain ⟨r, hr⟩ := has_root h
  have hb := h.bd
  have hq := h.2.2.1
  have q1 := q_big (Fp.of h)
  obtain ⟨o1, o2, o3, o4⟩ := primF_is (prim_ex (Fp.of h) hr)
  have OL : Hid (∀ a, 1 ≤ a → a < p ^ k → ordF p k (cofs xs) a ≤ p ^ k - 1) := fun a a1 a2 => (ordF_is (ord_ex (Fp.of h) hr a a1 a2)).2
  have HM := Lib.hid (fun (x : Nat) (W : World) (h1 : 1 ≤ x) (hx : x < p ^ k) => iorder p k x xs W h h1 hx)
  have S0 := Sf.start w p k (p ^ k : Nat) (cofs xs)
  obtain ⟨cc, hc⟩ : ∃ cc, ffv p k (p ^ k : Nat) (cofs xs) = cc := ⟨_, rfl⟩
  rw [hc] at S0 ⊢
  simp only [ffv_lit] at HM
  clear hc
  obtain ⟨o, ho⟩ : ∃ o, primF p k (cofs xs) = o := ⟨_, rfl⟩
  obtain ⟨q, hq'⟩ : ∃ q, p ^ k = q := ⟨_, rfl⟩
  rw [ho] at o1 o2 o3 o4 ⊢
  rw [hq'] at hq q1 o2 o3 o4 OL HM S0
  have O3 := Lib.hid o3
  have O4 := Lib.hid o4
  clear hr ho h o3 o4 hq'
  go_enter Try.func60, Try.ntmps60
  go_wp2
  go_loopw [3] (fun n wr => ∃ j : Nat, 1 ≤ j ∧ j ≤ o ∧ n = .int .i64 j ∧ Hid (Sf w w.heap.size p k q (cofs xs) wr)) (fun n _ => o - (intOf n).toNat)
  case atStart => exact ⟨1, by omega, by omega, rfl, S0⟩
  case round =>
    obtain ⟨j, j1, j2, rfl, hS⟩ := hrel
    have hjl : j < q := by omega
    obtain ⟨y, hy⟩ : ∃ y, ordF p k (cofs xs) j = y := ⟨_, rfl⟩
    have HJ := Lib.hid (HM.out j · j1 hjl)
    rw [hy] at HJ
    have yl : y ≤ q - 1 := by rw [← hy]; exact OL.out j j1 hjl
    have w2 := wrapk' (n := (q : Int) - 1) (by omega)
    have c2 := hS.out.1.cells.2.2
    have t2 : decide ((j : Int) < (q : Int)) = true := by simp; omega
    have t2' : decide (j < q) = true := by simp; omega
    have Sd := Sf.drew hS
    by_cases c : j = o
    · have t0 : y = q - 1 := by rw [← hy, c, O3.out]
      have t1 : ((y : Int) == (q : Int) - 1) = true := by simp; omega
      subst c
      clear hy t0
      go_upto_region 4 with fail
      go_region_held3 (fun w' => w'.cell? ⟨w.heap.size, 0, none⟩ = some (.int .i64 p) ∧ w'.cell? ⟨w.heap.size, 1, none⟩ = some (.int .i64 k) ∧ w'.cell? ⟨w.heap.size, 2, none⟩ = some (.int .i64 q) ∧ w'.cell? ⟨w.heap.size, 3, none⟩ = some (.int .i64 (cofs xs 0)) ∧ w'.cell? ⟨w.heap.size, 4, none⟩ = some (.int .i64 (cofs xs 1)) ∧ w'.cell? ⟨w.heap.size, 5, none⟩ = some (.int .i64 (cofs xs 2)) ∧ w'.cell? ⟨w.heap.size, 6, none⟩ = some (.int .i64 (cofs xs 3)) ∧ w'.cell? ⟨w.heap.size, 7, none⟩ = some (.int .i64 (cofs xs 4)) ∧ w'.cell? ⟨w.heap.size, 8, none⟩ = some (.int .i64 (cofs xs 5)) ∧ w'.cell? ⟨w.heap.size, 9, none⟩ = some (.int .i64 (cofs xs 6)) ∧ w'.cell? ⟨w.heap.size, 10, none⟩ = some (.int .i64 (cofs xs 7)) ∧ w'.cell? ⟨w.heap.size, 11, none⟩ = some (.int .i64 (cofs xs 8)) ∧ w'.cell? ⟨w.heap.size, 12, none⟩ = some (.int .i64 (cofs xs 9)) ∧ w'.cell? ⟨w.heap.size, 13, none⟩ = some (.int .i64 (cofs xs 10)) ∧ w'.cell? ⟨w.heap.size, 14, none⟩ = some (.int .i64 (cofs xs 11)) ∧ Hid (Sf w w.heap.size p k q (cofs xs) w')) (first | (refine held_ff ?_; with_reducible assumption))
        (first | (go_at_call 63; refine (HJ.out _).mono ?_; rintro e w4 ⟨rfl, b4⟩; have S4 := Sf.next Sd b4))
      go_wp2
      go_ret
      exact ⟨rfl, S4.out.2⟩
    · have t0 : y ≠ q - 1 := fun e => O4.out j j1 (by omega) (hy.trans e)
      have t1 : ((y : Int) == (q : Int) - 1) = false := by simp; omega
      have w1 := wrapk' (n := (j : Int) + 1) (by omega)
      clear t0 hy
      go_upto_region 4 with fail
      go_region_held3 (fun w' => w'.cell? ⟨w.heap.size, 0, none⟩ = some (.int .i64 p) ∧ w'.cell? ⟨w.heap.size, 1, none⟩ = some (.int .i64 k) ∧ w'.cell? ⟨w.heap.size, 2, none⟩ = some (.int .i64 q) ∧ w'.cell? ⟨w.heap.size, 3, none⟩ = some (.int .i64 (cofs xs 0)) ∧ w'.cell? ⟨w.heap.size, 4, none⟩ = some (.int .i64 (cofs xs 1)) ∧ w'.cell? ⟨w.heap.size, 5, none⟩ = some (.int .i64 (cofs xs 2)) ∧ w'.cell? ⟨w.heap.size, 6, none⟩ = some (.int .i64 (cofs xs 3)) ∧ w'.cell? ⟨w.heap.size, 7, none⟩ = some (.int .i64 (cofs xs 4)) ∧ w'.cell? ⟨w.heap.size, 8, none⟩ = some (.int .i64 (cofs xs 5)) ∧ w'.cell? ⟨w.heap.size, 9, none⟩ = some (.int .i64 (cofs xs 6)) ∧ w'.cell? ⟨w.heap.size, 10, none⟩ = some (.int .i64 (cofs xs 7)) ∧ w'.cell? ⟨w.heap.size, 11, none⟩ = some (.int .i64 (cofs xs 8)) ∧ w'.cell? ⟨w.heap.size, 12, none⟩ = some (.int .i64 (cofs xs 9)) ∧ w'.cell? ⟨w.heap.size, 13, none⟩ = some (.int .i64 (cofs xs 10)) ∧ w'.cell? ⟨w.heap.size, 14, none⟩ = some (.int .i64 (cofs xs 11)) ∧ Hid (Sf w w.heap.size p k q (cofs xs) w')) (first | (refine held_ff ?_; with_reducible assumption))
        (first | (go_at_call 63; refine (HJ.out _).mono ?_; rintro e w4 ⟨rfl, b4⟩; have S4 := Sf.next Sd b4))
      go_wp2
      go_roundw
      case rel => exact ⟨j + 1, by omega, by omega, by go_num, S4⟩
      case measure => simp [intOf]; omega
end Go.Proofs.Ytmlcdbjibngnkaa
