/- FieldSquares, both sides. -/
import Derived.Test.YtmlcdbjibngnkaaLt
import Derived.Test.YtmlcdbjibngnkaaPut
namespace Go.Proofs.Ytmlcdbjibngnkaa
open Go.RowKit
set_option linter.unusedVariables false
set_option linter.unusedSimpArgs false

/-! ### Rows of bools -/
def bar (n : Nat) (c : Nat → Bool) : Array Value := ((List.range n).map (fun i => Value.bool (c i))).toArray
theorem bar_get (n : Nat) (c : Nat → Bool) (i : Nat) (h : i < n) : (bar n c)[i]? = some (.bool (c i)) := by simp [bar, h]
def updB (c : Nat → Bool) (i : Nat) (v : Bool) : Nat → Bool := fun j => if j = i then v else c j
theorem bar_set (n : Nat) (c : Nat → Bool) (i : Nat) (v : Bool) : (bar n c).setIfInBounds i (.bool v) = bar n (updB c i v) := by
  apply Array.ext_getElem?
  intro j
  rw [Array.getElem?_setIfInBounds]
  by_cases hj : j < n
  · rw [bar_get n (updB c i v) j hj]
    by_cases e : i = j
    · subst e
      have hs : i < (bar n c).size := by simp [bar, hj]
      rw [if_pos rfl, if_pos hs]; unfold updB; rw [if_pos rfl]
    · rw [if_neg e, bar_get n c j hj]
      unfold updB
      rw [if_neg (fun h => e h.symm)]
  · have h1 : (bar n c).size = n := by simp [bar]
    have h2 : (bar n (updB c i v)).size = n := by simp [bar]
    rw [Array.getElem?_eq_none (by omega : (bar n (updB c i v)).size ≤ j)]
    split
    · rw [if_neg (by omega)]
    · exact Array.getElem?_eq_none (by omega)
def Bl (w : World) (g q : Nat) (c : Nat → Bool) : Prop := w.heap[g]? = some (.cells (bar q c) 4 (0, 0))
theorem Bl.cell {w : World} {g q : Nat} {c : Nat → Bool} (h : Bl w g q c) (i : Nat) (hi : i < q) : w.cell? ⟨g, i, none⟩ = some (.bool (c i)) := by
  rw [cell_of_row w g i _ _ _ h, bar_get q c i hi]
theorem Bl.frozen {w : World} {g q : Nat} {c : Nat → Bool} (h : Bl w g q c) (i : Nat) : w.frozen? ⟨g, i, none⟩ = false := frozen_of_row w g i _ _ h
theorem Bl.set {w : World} {g q : Nat} {c : Nat → Bool} (h : Bl w g q c) (i : Nat) (v : Bool) : Bl (w.setCell ⟨g, i, none⟩ (.bool v)) g q (updB c i v) := by
  unfold Bl
  rw [heap_setCell_same w g i _ _ _ h, bar_set]
theorem Bl.lt {w : World} {g q : Nat} {c : Nat → Bool} (h : Bl w g q c) : g < w.heap.size := by
  unfold Bl at h; exact (Array.getElem?_eq_some_iff.1 h).1
theorem Bl.below {w w' : World} {g q : Nat} {c : Nat → Bool} (h : Bl w g q c) (hb : Below w.heap.size w w') : Bl w' g q c := (hb.block g h.lt).trans h
theorem made_bar (q : Nat) : madeCells #[.bool false] q = bar q (fun _ => false) := by
  apply Array.ext'
  rw [toList_madeCells_one]
  simp [bar, List.map_const']
theorem Bl.congr {w : World} {g q : Nat} {c d : Nat → Bool} (h : Bl w g q c) (e : ∀ i, i < q → c i = d i) : Bl w g q d := by
  have : bar q c = bar q d := by
    unfold bar
    congr 1
    exact List.map_congr_left (fun i hi => by rw [e i (List.mem_range.1 hi)])
  unfold Bl at h ⊢
  rw [← this]; exact h
theorem Try.infoBool : (Try.prog.info? 4).map (fun i => (i.zero, i.size, i.bytes)) = some (some (.bool false), 1, 1) := by kernel_rfl

/-! ### Lists of the numbers below q that pass a test -/
def flt (q : Nat) (P : Nat → Bool) : List Int := ((List.range q).filter P).map (fun n : Nat => (n : Int))
theorem flt_succ (q : Nat) (P : Nat → Bool) : flt (q + 1) P = flt q P ++ if P q then [(q : Int)] else [] := by
  unfold flt
  rw [List.range_succ, List.filter_append, List.map_append]
  congr 1
  by_cases h : P q = true
  · rw [if_pos h, List.filter_cons_of_pos h]; rfl
  · rw [if_neg h, List.filter_cons_of_neg h]; rfl
theorem flt_lt (q : Nat) (P : Nat → Bool) : ∀ x ∈ flt q P, x < (q : Int) := by
  intro x hx
  obtain ⟨n, hn, rfl⟩ := List.mem_map.1 hx
  have := List.mem_range.1 (List.mem_filter.1 hn).1
  omega
theorem flt_len (q : Nat) (P : Nat → Bool) : (flt q P).length ≤ q := by
  unfold flt
  rw [List.length_map]
  exact Nat.le_trans (List.length_filter_le _ _) (by simp)
theorem flt_congr (q : Nat) (P R : Nat → Bool) (h : ∀ n, n < q → P n = R n) : flt q P = flt q R := by
  unfold flt
  congr 1
  exact List.filter_congr (fun n hn => by rw [h n (List.mem_range.1 hn)])
theorem put_flt (n : Nat) (P : Nat → Bool) : ∀ q, n < q → put (flt q P) n = flt q (updB P n true)
  | 0, h => by omega
  | q + 1, h => by
    rw [flt_succ, flt_succ]
    by_cases c : n < q
    · have ih := put_flt n P q c
      have e : updB P n true q = P q := by unfold updB; rw [if_neg (by omega)]
      rw [e, ← ih]
      cases P q with
      | true => rw [if_pos rfl, put_snoc _ _ _ (by omega)]
      | false => simp
    · obtain rfl : n = q := by omega
      have e : updB P n true n = true := by unfold updB; rw [if_pos rfl]
      have e2 : flt n (updB P n true) = flt n P := flt_congr _ _ _ (fun m hm => by unfold updB; rw [if_neg (by omega)])
      rw [e, e2, if_pos rfl]
      cases P n with
      | false => rw [if_neg (by decide), List.append_nil, put_last _ _ (flt_lt n P)]
      | true =>
        rw [if_pos rfl]
        have key : ∀ (xs : List Int) (m : Int), (∀ x ∈ xs, x < m) → put (xs ++ [m]) m = xs ++ [m] := by
          intro xs m
          induction xs with
          | nil => intro _; show put [m] m = [m]; rw [put, if_neg (by omega), if_pos rfl]
          | cons x xs ih =>
            intro hb
            show put (x :: (xs ++ [m])) m = x :: (xs ++ [m])
            rw [put, if_pos (hb x (List.mem_cons_self ..)), ih (fun y hy => hb y (List.mem_cons_of_mem _ hy))]
        exact key _ _ (flt_lt n P)
theorem flt_none (q : Nat) : flt q (fun _ => false) = [] := by
  unfold flt
  simp

/-- The squares of 1, .., j. -/
def sqP (p k : Nat) (f : Co) : Nat → Nat → Bool
  | 0 => fun _ => false
  | j + 1 => updB (sqP p k f j) (fm p k f (j + 1) (j + 1)) true
noncomputable def sqT (P K : Int) (xs : List Int) : List Int := if fok P K xs = true then flt (P.toNat ^ K.toNat) (sqP P.toNat K.toNat (cofs xs) (P.toNat ^ K.toNat - 1)) else []
theorem sqT_len (P K : Int) (xs : List Int) : (sqT P K xs).length ≤ 64 := by
  unfold sqT
  split
  · rename_i h
    obtain ⟨p, k, rfl, rfl, hf⟩ := fok_int h
    have := flt_len (p ^ k) (sqP p k (cofs xs) (p ^ k - 1))
    have := hf.2.2.1
    simp only [Int.toNat_natCast]
    omega
  · simp

set_option maxHeartbeats 1000000 in
theorem ssquares (p k : Nat) (xs : List Int) (v : Value) (g : Nat) (w : World) (hf : Fd w g p k v) (hv : IntsAt w v xs) (h : FOk p k xs) :
    Calls Try.prog 82 #[.pointer (some ⟨g, 0, none⟩)] w fun e w' => ∃ v', e = .returned v' ∧ Ints w' w.heap.size v' (flt (p ^ k) (sqP p k (cofs xs) (p ^ k - 1))) ∧ Below w.heap.size w w' := by
  have hF := Lib.hid (Fp.of h)
  have hb := h.bd
  have hq := h.2.2.1
  have q1 := q_big (Fp.of h)
  have HM := Lib.hid (fun (x y : Nat) (W : World) (hs : Sp w g p k v W) (hx : x < p ^ k) (hy : y < p ^ k) => smulN p k x y xs _ g W hs.1 (hv.below hs.2 (Nat.le_refl _)) h hx hy)
  have HZ := Lib.hid (fun (W : World) (hs : Sp w g p k v W) => ssize p k _ g W hs.1 hb.2.1 hb.2.2)
  have HP := Lib.hid (fun (W : World) (u : Value) (ys : List Int) (n : Int) (hu : IntsAt W u ys) (hl : ys.length ≤ 1000000) => sput W u ys n hu hl)
  have FL : Hid (∀ x y, fm p k (cofs xs) x y < p ^ k) := fun x y => fm_lt (Fp.of h) x y
  obtain ⟨q, hq'⟩ : ∃ q, p ^ k = q := ⟨_, rfl⟩
  rw [hq'] at hq q1 HM HZ FL ⊢
  have S0 : Hid (Sp w g p k v w) := ⟨hf, Below.refl _ _⟩
  clear hf hv h hq'
  go_enter Try.func82, Try.ntmps82
  go_wp2
  obtain ⟨wo, hwo⟩ : ∃ wo, w.alloc (.cells #[] 2) = wo := ⟨_, rfl⟩
  have HI : Hid (Ints wo w.heap.size (.slice (some ⟨w.heap.size, 0, none⟩) 0 0) (flt q (sqP p k (cofs xs) (1 - 1)))) := by
    rw [← hwo, show sqP p k (cofs xs) (1 - 1) = fun _ => false from rfl, flt_none]; exact World.ownsRow_made w #[] 0 (Nat.le_refl _) (by decide) rfl
  have S1 : Hid (Sp w g p k v wo) := by rw [← hwo]; exact Sp.next S0 ((Below.refl _ _).alloc (Nat.le_refl _) _)
  rw [hwo]
  clear hwo S0
  go_loopw [3, 4] (fun v' i wr => ∃ j : Nat, 1 ≤ j ∧ j ≤ q ∧ i = .int .i64 j ∧ Hid (Ints wr w.heap.size v' (flt q (sqP p k (cofs xs) (j - 1)))) ∧ Hid (Sp w g p k v wr)) (fun _ i _ => q - (intOf i).toNat)
  case atStart => exact ⟨1, by omega, by omega, rfl, HI, S1⟩
  case round =>
    obtain ⟨j, j1, j2, rfl, hI, hS⟩ := hrel
    by_cases c : j < q
    · have g1 : decide (j < q) = true := by simpa using c
      have g1' : decide ((j : Int) < (q : Int)) = true := by simp; omega
      have w1 := wrapk' (n := (j : Int) + 1) (by omega)
      obtain ⟨z, hz⟩ : ∃ z, fm p k (cofs xs) j j = z := ⟨_, rfl⟩
      have zq : z < q := by rw [← hz]; exact FL.out j j
      have HJ := Lib.hid (HM.out j j · · c c)
      rw [hz] at HJ
      have hlen := flt_len q (sqP p k (cofs xs) (j - 1))
      have E : Hid (put (flt q (sqP p k (cofs xs) (j - 1))) z = flt q (sqP p k (cofs xs) (j + 1 - 1))) := by
        unfold Hid
        rw [put_flt z _ q zq, show j + 1 - 1 = (j - 1) + 1 by omega, sqP, show j - 1 + 1 = j by omega, hz]
      obtain ⟨ys, hys⟩ : ∃ ys, flt q (sqP p k (cofs xs) (j - 1)) = ys := ⟨_, rfl⟩
      rw [hys] at hlen E hI
      have hl2 : ys.length ≤ 1000000 := by omega
      clear hz hys
      go_wp2_with fail
      refine (HZ.out _ hS.out).mono ?_
      rintro e w2 ⟨rfl, n2, rfl⟩
      have S2 : Hid (Sp w g p k v (wr.drewN n2)) := Sp.next hS (belowN (Below.refl _ _) n2)
      have I2 : Hid (Ints (wr.drewN n2) w.heap.size _ ys) := hI.out.drewN n2
      obtain ⟨w2, hw2⟩ : ∃ w2, wr.drewN n2 = w2 := ⟨_, rfl⟩
      rw [hw2] at S2 I2 ⊢
      clear hw2 hI hS
      go_wp2_with fail
      refine (HJ.out _ S2.out).mono ?_
      rintro e w3 ⟨rfl, b3⟩
      have S3 := Sp.next S2 b3
      have I3 := Lib.hid (I2.out.below b3 (Nat.le_refl _))
      clear b3 I2 S2
      go_wp2_with fail
      refine (HP.out _ _ ys z I3.out.at hl2).mono ?_
      rintro e w4 ⟨v4, rfl, i4, b4⟩
      have S4 := Sp.next S3 b4
      have I4 : Hid (Ints w4 w.heap.size v4 (flt q (sqP p k (cofs xs) (j + 1 - 1)))) := by rw [← E.out]; exact i4.mono S3.out.2.size
      clear i4 b4
      go_wp2
      go_roundw
      case rel => exact ⟨j + 1, by omega, by omega, by go_num, I4, S4⟩
      case measure => simp [intOf]; omega
    · have g1 : decide (j < q) = false := by simpa using c
      have g1' : decide ((j : Int) < (q : Int)) = false := by simp; omega
      obtain rfl : j = q := by omega
      go_wp2_with fail
      refine (HZ.out _ hS.out).mono ?_
      rintro e w2 ⟨rfl, n2, rfl⟩
      have S2 : Hid (Below w.heap.size w (wr.drewN n2)) := belowN hS.out.2 n2
      go_wp2
      go_ret
      exact ⟨_, rfl, hI.out.drewN n2, S2.out⟩

set_option maxHeartbeats 1000000 in
theorem sFieldSquares (P K : Int) (xs : List Int) (v : Value) (w : World) (hv : IntsAt w v xs) :
    Calls Try.prog 53 #[.agg #[.int .i64 P, .int .i64 K, v]] w fun e w' => ∃ v', e = .returned v' ∧ Ints w' w.heap.size v' (sqT P K xs) ∧ Below w.heap.size w w' := by
  have B1 : Hid (Below w.heap.size w (w.alloc (.cells #[.int .i64 P, .int .i64 K, v] 25))) := (Below.refl _ _).alloc (Nat.le_refl _) _
  have HS := Lib.hid (sok P K xs v w.heap.size (w.alloc (.cells #[.int .i64 P, .int .i64 K, v] 25)) (Fd.new w P K v) (hv.below B1.out (Nat.le_refl _)))
  have F1 := Lib.hid (Fd.new w P K v)
  have V1 : Hid (IntsAt (w.alloc (.cells #[.int .i64 P, .int .i64 K, v] 25)) v xs) := IntsAt.below hv B1.out (Nat.le_refl _)
  obtain ⟨a, n, cap, rfl⟩ := fld_slice hv
  clear hv
  by_cases hk : fok P K xs = true
  · obtain ⟨p, k, rfl, rfl, h⟩ := fok_int hk
    have HZ := Lib.hid (fun (W : World) (hf : Fd W w.heap.size p k (.slice a n cap)) (hi : IntsAt W (.slice a n cap) xs) => ssquares p k xs _ w.heap.size W hf hi h)
    have E : Hid (sqT p k xs = flt (p ^ k) (sqP p k (cofs xs) (p ^ k - 1))) := by
      unfold Hid sqT
      rw [if_pos hk]
      simp only [Int.toNat_natCast]
    obtain ⟨t, ht⟩ : ∃ t, flt (p ^ k) (sqP p k (cofs xs) (p ^ k - 1)) = t := ⟨_, rfl⟩
    rw [ht] at HZ E
    rw [hk] at HS
    clear hk h ht
    go_enter Try.func53, Try.ntmps53
    go_wp2_with (first | (go_at_call 58; refine HS.out.mono ?_; rintro e w' ⟨rfl, b2⟩; have B2 := Lib.hid (B1.out.trans (b2.mono B1.out.size)); have F2 := Lib.hid (Fd.next F1.out b2); have V2 := Lib.hid (IntsAt.below V1.out b2 (Nat.le_refl _)); clear b2) | (go_at_call 82; refine (HZ.out _ F2.out V2.out).mono ?_; rintro e w3 ⟨v3, rfl, i3, b3⟩; have I3 := Lib.hid i3; have B3 := Lib.hid b3; clear i3 b3))
    go_ret
    exact ⟨_, rfl, by rw [E.out]; exact I3.out.mono B2.out.size, B2.out.trans (B3.out.mono B2.out.size)⟩
  · have E : Hid (sqT P K xs = []) := by unfold Hid sqT; rw [if_neg hk]
    rw [Bool.not_eq_true] at hk
    rw [hk] at HS
    clear hk
    go_enter Try.func53, Try.ntmps53
    go_wp2_with (go_at_call 58; refine HS.out.mono ?_; rintro e w' ⟨rfl, b2⟩; have B2 := Lib.hid b2; clear b2)
    go_ret
    exact ⟨_, rfl, by rw [E.out]; exact World.ownsRow_nil _ _ _ _, B1.out.trans (B2.out.mono B1.out.size)⟩

set_option maxHeartbeats 2000000 in
theorem iFieldSquares (P K : Int) (xs : List Int) (v : Value) (w : World) (hv : IntsAt w v xs) :
    Calls Try.prog 27 #[.agg #[.int .i64 P, .int .i64 K, v]] w fun e w' => ∃ v', e = .returned v' ∧ Ints w' w.heap.size v' (sqT P K xs) ∧ Below w.heap.size w w' := by
  have B1 : Hid (Below w.heap.size w (w.alloc (.cells #[.int .i64 P, .int .i64 K, v] 25))) := (Below.refl _ _).alloc (Nat.le_refl _) _
  obtain ⟨c, hc, hs, h1, hcv⟩ := ffAns_shape P K xs
  have HS := Lib.hid (ffOf P K xs v (w.alloc (.cells #[.int .i64 P, .int .i64 K, v] 25)) (hv.below B1.out (Nat.le_refl _)))
  rw [hc] at HS
  have hst := fun W : World => Try.storesFf W c hs h1
  obtain ⟨a, n, cap, rfl⟩ := fld_slice hv
  clear hv hc h1
  by_cases hk : fok P K xs = true
  · rw [hk] at HS
    have HC := Lib.hid (hcv hk)
    obtain ⟨p, k, rfl, rfl, h⟩ := fok_int hk
    rw [fsz_ok h] at HC
    have hq := h.2.2.1
    have q1 := q_big (Fp.of h)
    have HM := Lib.hid (fun (x y : Nat) (W : World) (hx : x < p ^ k) (hy : y < p ^ k) => imulN p k xs x y W h hx hy)
    have E : Hid (sqT p k xs = flt (p ^ k) (sqP p k (cofs xs) (p ^ k - 1))) := by
      unfold Hid sqT
      rw [if_pos hk]
      simp only [Int.toNat_natCast]
    have FL : Hid (∀ x y, fm p k (cofs xs) x y < p ^ k) := fun x y => fm_lt (Fp.of h) x y
    obtain ⟨q, hq'⟩ : ∃ q, p ^ k = q := ⟨_, rfl⟩
    rw [hq'] at hq q1 HM E HC FL
    have FN : Hid (∀ W : World, Ff (W.alloc (.cells c 57)) W.heap.size p k q (cofs xs)) := fun W => by rw [HC.out]; exact Ff.new _ _ _ _ _
    have hmk := fun W : World => run_make_row' (P := Try.prog) 66 4 (.bool false) 1 Try.underlying66 Try.infoBool rfl .i64 .i64 q (by omega) (by omega) W
    have hrow0 : Hid (∀ W : World, Bl (W.alloc (.cells (madeCells #[.bool false] q) 4)) W.heap.size q (fun _ => false)) := fun W => by
      unfold Bl
      rw [made_bar]
      exact heap_alloc_new W _
    simp only [ffv_lit] at HM
    clear hk h hq' hcv
    go_enter Try.func27, Try.ntmps27
    go_upto_region 2 with (go_at_call 59; refine HS.out.mono ?_; rintro e w2 ⟨rfl, b2⟩; have B2 := Lib.hid (B1.out.trans (b2.mono B1.out.size)); clear b2)
    have F3 := Lib.hid (FN.out w2)
    have B3 : Hid (Below w.heap.size w (w2.alloc (.cells c 57))) := B2.out.alloc B2.out.size _
    obtain ⟨g3, hg3⟩ : ∃ g3, w2.heap.size = g3 := ⟨_, rfl⟩
    have s0 : w.heap.size ≤ g3 := by have := B2.out.size; omega
    obtain ⟨w3, hw3⟩ : ∃ w3, w2.alloc (.cells c 57) = w3 := ⟨_, rfl⟩
    rw [hw3] at F3 B3 ⊢
    rw [hg3] at F3 ⊢
    clear hw3 hg3 hst HS FN B2 B1
    have c2 := F3.out.cells.2.2
    go_upto_region 5 with fail
    have Z3 := Lib.hid (hrow0.out w3)
    have S4 : Hid (Ff (w3.alloc (.cells (madeCells #[.bool false] q) 4)) g3 p k q (cofs xs) ∧ Below w.heap.size w (w3.alloc (.cells (madeCells #[.bool false] q) 4))) := ⟨F3.out.next ((Below.refl _ _).alloc (Nat.le_refl _) _), B3.out.alloc B3.out.size _⟩
    obtain ⟨gz, hgz⟩ : ∃ gz, w3.heap.size = gz := ⟨_, rfl⟩
    obtain ⟨w4, hw4⟩ : ∃ w4, w3.alloc (.cells (madeCells #[.bool false] q) 4) = w4 := ⟨_, rfl⟩
    have s1 : g3 < gz := by rw [← hgz]; exact F3.out.lt
    rw [hw4] at Z3 S4 ⊢
    rw [hgz] at Z3 ⊢
    clear hw4 hgz F3 B3 hmk hrow0 c2
    have Z4 : Hid (Bl w4 gz q (sqP p k (cofs xs) (1 - 1))) := Z3.out
    clear Z3
    go_wp2
    go_loopw [6] (fun i wr => ∃ j : Nat, 1 ≤ j ∧ j ≤ q ∧ i = .int .i64 j ∧ Hid (Bl wr gz q (sqP p k (cofs xs) (j - 1))) ∧ Hid (Ff wr g3 p k q (cofs xs) ∧ Below w.heap.size w wr)) (fun i _ => q - (intOf i).toNat)
    case atStart => exact ⟨1, by omega, by omega, rfl, Z4, S4⟩
    case round =>
      obtain ⟨j, j1, j2, rfl, hZ, hS⟩ := hrel
      obtain ⟨p0, p1, p2, p3, p4, p5, p6, p7, p8, p9, p10, p11, p12, p13, p14⟩ := hS.out.1.all
      by_cases c : j < q
      · have g1 : decide (j < q) = true := by simpa using c
        have g1' : decide ((j : Int) < (q : Int)) = true := by simp; omega
        have w1' := wrapk' (n := (j : Int) + 1) (by omega)
        obtain ⟨z, hz⟩ : ∃ z, fm p k (cofs xs) j j = z := ⟨_, rfl⟩
        have zq : z < q := by rw [← hz]; exact FL.out j j
        have z0 : (0 : Int) ≤ (z : Int) := by omega
        have z1 : (z : Int) < (q : Int) := by omega
        have HJ := Lib.hid (fun W : World => HM.out j j W c c)
        rw [hz] at HJ
        have E2 : Hid (updB (sqP p k (cofs xs) (j - 1)) z true = sqP p k (cofs xs) (j + 1 - 1)) := by
          unfold Hid
          rw [show j + 1 - 1 = (j - 1) + 1 by omega, sqP, show j - 1 + 1 = j by omega, hz]
        clear hz
        go_wp2_with (go_at_call 61; refine (HJ.out _).mono ?_; rintro e w5 ⟨rfl, b5⟩; have Z5 := Lib.hid (hZ.out.below b5); have S5 : Hid (Ff w5 g3 p k q (cofs xs) ∧ Below w.heap.size w w5) := ⟨hS.out.1.next b5, hS.out.2.trans (b5.mono hS.out.2.size)⟩; have cz := Z5.out.cell z zq; have fz := Z5.out.frozen z; clear b5)
        go_roundw
        case rel => exact ⟨j + 1, by omega, by omega, by go_num, by rw [← E2.out]; exact Z5.out.set z true, ⟨(heap_setCell_other w5 ⟨gz, z, none⟩ g3 _ (by show g3 ≠ gz; omega)).trans S5.out.1, S5.out.2.setCell (by show w.heap.size ≤ gz; omega) _⟩⟩
        case measure => simp [intOf]; omega
      · have g1 : decide (j < q) = false := by simpa using c
        have g1' : decide ((j : Int) < (q : Int)) = false := by simp; omega
        obtain rfl : j = q := by omega
        obtain ⟨R, hR⟩ : ∃ R, sqP p k (cofs xs) (j - 1) = R := ⟨_, rfl⟩
        rw [hR] at hZ E
        have h2 : gz < wr.heap.size := hZ.out.lt
        have HI : Hid (Ints wr (gz + 1) (.slice none 0 0) (flt 0 R)) := World.ownsRow_nil _ _ _ _
        have HB := Lib.hid hS.out.2
        obtain ⟨wq, rfl⟩ : ∃ wq : World, wq = wr := ⟨_, rfl⟩
        clear hR hS p0 p1 p3 p4 p5 p6 p7 p8 p9 p10 p11 p12 p13 p14
        go_wp2
        clear p2
        go_loopw [7, 34] (fun u i wr => ∃ t : Nat, t ≤ j ∧ i = .int .i64 t ∧ Hid (Ints wr (gz + 1) u (flt t R)) ∧ Hid (Bl wr gz j R) ∧ Hid (Below (gz + 1) wq wr)) (fun _ i _ => j - (intOf i).toNat)
        case atStart => exact ⟨0, by omega, rfl, HI, hZ, Below.refl _ _⟩
        case round =>
          obtain ⟨t, t1, rfl, hI, hZ2, hB2⟩ := hrel
          by_cases ct : t < j
          · have g2 : decide (t < j) = true := by simpa using ct
            have ct0 : (0 : Int) ≤ (t : Int) := by omega
            have ct1 : (t : Int) < (j : Int) := by omega
            have w1' := wrapk' (n := (t : Int) + 1) (by omega)
            have cc := hZ2.out.cell t ct
            have s2 : gz + 1 ≤ wr.heap.size := by have := hZ2.out.lt; omega
            have hlen := flt_len t R
            have EF := Lib.hid (flt_succ t R)
            cases hr : R t with
            | true =>
              rw [hr] at cc EF
              rw [if_pos rfl] at EF
              clear hr
              go_wp2_with (at_builtin; refine wpList_push wr (by rfl) _ _ (by rfl) (gz + 1) _ _ (by rfl) hI.out (t : Int) _ (by rfl) (by omega) s2 ?_; intro v' w3 hn hb; have HN' := Lib.hid hn; have HB2 := Lib.hid hb; clear hn hb)
              go_roundw
              case rel => exact ⟨t + 1, by omega, by go_num, by rw [EF.out]; exact HN', (HB2.out.block gz (by omega)).trans hZ2.out, hB2.out.trans HB2.out⟩
              case measure => simp [intOf]; omega
            | false =>
              rw [hr] at cc EF
              rw [if_neg (by decide), List.append_nil] at EF
              clear hr
              go_wp2
              go_roundw
              case rel => exact ⟨t + 1, by omega, by go_num, by rw [EF.out]; exact hI, hZ2, hB2⟩
              case measure => simp [intOf]; omega
          · have g2 : decide (t < j) = false := by simpa using ct
            obtain rfl : t = j := by omega
            have B2 : Hid (Below w.heap.size w wr) := HB.out.trans (hB2.out.mono (by omega))
            go_wp2
            go_ret
            exact ⟨_, rfl, by rw [E.out]; exact hI.out.mono (by omega), B2.out⟩
  · have E : Hid (sqT P K xs = []) := by unfold Hid sqT; rw [if_neg hk]
    rw [Bool.not_eq_true] at hk
    rw [hk] at HS
    clear hk hcv
    go_enter Try.func27, Try.ntmps27
    go_upto_region 2 with (go_at_call 59; refine HS.out.mono ?_; rintro e w2 ⟨rfl, b2⟩; have B2 := Lib.hid (B1.out.trans (b2.mono B1.out.size)); clear b2)
    have B3 : Hid (Below w.heap.size w (w2.alloc (.cells c 57))) := B2.out.alloc B2.out.size _
    go_wp2
    go_ret
    exact ⟨_, rfl, by rw [E.out]; exact World.ownsRow_nil _ _ _ _, B3.out⟩
end Go.Proofs.Ytmlcdbjibngnkaa
