/- l00Put: a number is put into a list. -/
import Derived.Test.YtanfodbpgpfjmaaDoorArg
namespace Go.Proofs.YtanfodbpgpfjmaaDoor
open Go.RowKit
set_option linter.unusedVariables false

def put : List Int → Int → List Int
  | [], n => [n]
  | x :: xs, n => if x < n then x :: put xs n else if x = n then x :: xs else n :: x :: xs
theorem put_last : ∀ (xs : List Int) (n : Int), (∀ x ∈ xs, x < n) → put xs n = xs ++ [n]
  | [], n, _ => rfl
  | x :: xs, n, h => by
    rw [put, if_pos (h x (List.mem_cons_self ..)), put_last xs n (fun y hy => h y (List.mem_cons_of_mem _ hy))]; rfl
theorem put_snoc : ∀ (xs : List Int) (m n : Int), n < m → put (xs ++ [m]) n = put xs n ++ [m]
  | [], m, n, h => by
    have e : put [m] n = if m < n then m :: put [] n else if m = n then [m] else [n, m] := rfl
    show put [m] n = [n] ++ [m]
    rw [e, if_neg (by omega), if_neg (by omega)]; rfl
  | x :: xs, m, n, h => by
    show put (x :: (xs ++ [m])) n = put (x :: xs) n ++ [m]
    rw [put, put]
    split
    · rw [put_snoc xs m n h]; rfl
    · split <;> rfl
theorem put_len : ∀ (xs : List Int) (n : Int), (put xs n).length ≤ xs.length + 1
  | [], n => Nat.le_refl _
  | x :: xs, n => by
    have := put_len xs n
    rw [put]
    split
    · simp only [List.length_cons]; omega
    · split <;> simp only [List.length_cons] <;> omega
theorem put_at : ∀ (xs : List Int) (n : Int) (i : Nat), i < xs.length → (∀ t, t < i → xs.getD t 0 < n) → ¬ xs.getD i 0 < n →
    put xs n = if xs.getD i 0 = n then xs else xs.take i ++ [n] ++ xs.drop i
  | [], n, i, h, _, _ => by simp at h
  | x :: xs, n, 0, h, hb, hx => by
    have hx' : ¬ x < n := hx
    rw [put, if_neg hx']
    show (if x = n then x :: xs else n :: x :: xs) = if x = n then x :: xs else [] ++ [n] ++ (x :: xs)
    rfl
  | x :: xs, n, i + 1, h, hb, hx => by
    have h0 : x < n := hb 0 (by omega)
    have ih := put_at xs n i (by simp at h; omega) (fun t ht => hb (t + 1) (by omega)) hx
    rw [put, if_pos h0, ih]
    show (x :: if xs.getD i 0 = n then xs else xs.take i ++ [n] ++ xs.drop i) = if xs.getD i 0 = n then x :: xs else (x :: xs.take i) ++ [n] ++ xs.drop i
    split <;> rfl

def PutSt (xs : List Int) (n : Int) (i : Nat) (dn : Bool) (ys : List Int) : Prop :=
  (dn = false → ys = xs.take i ∧ ∀ t, t < i → xs.getD t 0 < n) ∧ (dn = true → ys ++ xs.drop i = put xs n) ∧ ys.length ≤ i + 1
theorem drop_getD {xs : List Int} {i : Nat} (h : i < xs.length) : xs.drop i = xs.getD i 0 :: xs.drop (i + 1) := by
  rw [List.drop_eq_getElem_cons h, List.getD_eq_getElem?_getD, List.getElem?_eq_getElem h]; rfl
theorem take_getD {xs : List Int} {i : Nat} (h : i < xs.length) : xs.take (i + 1) = xs.take i ++ [xs.getD i 0] := by
  rw [List.take_succ_eq_append_getElem h, List.getD_eq_getElem?_getD, List.getElem?_eq_getElem h]; rfl
theorem put_go {xs ys : List Int} {n : Int} {i : Nat} (h : PutSt xs n i true ys) (hi : i < xs.length) : PutSt xs n (i + 1) true (ys ++ [xs.getD i 0]) := by
  refine ⟨fun e => (by cases e), fun _ => ?_, by rw [List.length_append]; have := h.2.2; simp; omega⟩
  rw [List.append_assoc, List.singleton_append, ← drop_getD hi]; exact h.2.1 rfl
theorem put_less {xs ys : List Int} {n : Int} {i : Nat} (h : PutSt xs n i false ys) (hi : i < xs.length) (hx : xs.getD i 0 < n) : PutSt xs n (i + 1) false (ys ++ [xs.getD i 0]) := by
  obtain ⟨e, hb⟩ := h.1 rfl
  refine ⟨fun _ => ⟨by rw [e, take_getD hi], fun t ht => ?_⟩, fun e => (by cases e), by rw [List.length_append]; have := h.2.2; simp; omega⟩
  by_cases c : t = i
  · rw [c]; exact hx
  · exact hb t (by omega)
theorem put_eq {xs ys : List Int} {n : Int} {i : Nat} (h : PutSt xs n i false ys) (hi : i < xs.length) (hx : xs.getD i 0 = n) : PutSt xs n (i + 1) true (ys ++ [xs.getD i 0]) := by
  obtain ⟨e, hb⟩ := h.1 rfl
  refine ⟨fun e => (by cases e), fun _ => ?_, by rw [List.length_append]; have := h.2.2; simp; omega⟩
  rw [put_at xs n i hi hb (by omega), if_pos hx, e, List.append_assoc, List.singleton_append, ← drop_getD hi, List.take_append_drop]
theorem put_more {xs ys : List Int} {n : Int} {i : Nat} (h : PutSt xs n i false ys) (hi : i < xs.length) (hx : n < xs.getD i 0) : PutSt xs n (i + 1) true (ys ++ [n] ++ [xs.getD i 0]) := by
  obtain ⟨e, hb⟩ := h.1 rfl
  refine ⟨fun e => (by cases e), fun _ => ?_, ?_⟩
  · rw [put_at xs n i hi hb (by omega), if_neg (by omega), e, List.append_assoc (_ ++ [n]), List.singleton_append, ← drop_getD hi]
  · rw [e]; simp only [List.length_append, List.length_take, List.length_cons, List.length_nil]; omega
theorem put_end {xs ys : List Int} {n : Int} (h : PutSt xs n xs.length false ys) : ys ++ [n] = put xs n := by
  obtain ⟨e, hb⟩ := h.1 rfl
  rw [e, List.take_length, put_last]
  intro x hx
  obtain ⟨i, hi, rfl⟩ := List.getElem_of_mem hx
  have := hb i hi
  rwa [List.getD_eq_getElem?_getD, List.getElem?_eq_getElem hi] at this
theorem put_end' {xs ys : List Int} {n : Int} (h : PutSt xs n xs.length true ys) : ys = put xs n := by
  have := h.2.1 rfl
  rwa [List.drop_length, List.append_nil] at this

set_option maxHeartbeats 2000000 in
theorem sput (w : World) (v : Value) (xs : List Int) (n : Int) (hv : IntsAt w v xs) (hx : xs.length ≤ 1000000) :
    Calls Tryd.prog 114 #[v, .int .i64 n] w fun e w' => ∃ v', e = .returned v' ∧ Ints w' w.heap.size v' (put xs n) ∧ Below w.heap.size w w' := by
  obtain ⟨hl, hc⟩ := hv
  obtain ⟨m, hm⟩ : ∃ m, xs.length = m := ⟨_, rfl⟩
  have HM := Lib.hid hm
  obtain ⟨a, cap, rfl, hc'⟩ : ∃ a cap, v = .slice a m cap ∧ ∀ j, j < m → ∃ g off, a = some ⟨g, off, none⟩ ∧ g < w.heap.size ∧ w.cell? ⟨g, off + j, none⟩ = some (.int .i64 (xs.getD j 0)) := by
    rcases hc with ⟨rfl, a, cap, rfl⟩ | ⟨g, off, cap, rfl, hc⟩
    · rw [← hm]; exact ⟨a, cap, rfl, fun j hj => by simp at hj⟩
    · rw [hm]; exact ⟨_, cap, rfl, fun j hj => ⟨g, off, rfl, World.block_lt_of_cell? w _ (hc j (by omega)), hc j (by omega)⟩⟩
  rw [hm] at hx hl
  have HC := Lib.hid hc'
  clear hc hc' hm
  go_enter Tryd.func114, Tryd.ntmps114
  go_wp2
  obtain ⟨wo, hwo⟩ : ∃ wo, w.alloc (.cells #[] 2) = wo := ⟨_, rfl⟩
  have HI : Hid (Ints wo w.heap.size (.slice (some ⟨w.heap.size, 0, none⟩) 0 0) []) := by rw [← hwo]; exact World.ownsRow_made w #[] 0 (Nat.le_refl _) (by decide) rfl
  have HB : Hid (Below w.heap.size w wo) := by rw [← hwo]; exact (Below.refl _ _).alloc (Nat.le_refl _) _
  rw [hwo]
  clear hwo
  obtain ⟨B, hB⟩ : ∃ B, w.heap.size = B := ⟨_, rfl⟩
  rw [hB] at HI HB HC ⊢
  have HE := Lib.hid hB
  clear hB
  go_loopw [5, 6, 7] (fun v dn i wr => ∃ (j : Nat) (d : Bool) (ys : List Int), j ≤ m ∧ dn = .bool d ∧ i = .int .i64 j ∧ Hid (Ints wr B v ys) ∧ Hid (PutSt xs n j d ys) ∧ Hid (Below B w wr)) (fun _ _ i _ => m - (intOf i).toNat)
  case atStart => exact ⟨0, false, [], by omega, rfl, rfl, HI, ⟨fun _ => ⟨rfl, fun t ht => by omega⟩, fun e => (by cases e), by simp⟩, HB⟩
  case round =>
    obtain ⟨j, d, ys, hj, rfl, rfl, hI, hP, hBl⟩ := hrel
    have s2 : B ≤ wr.heap.size := by have := hBl.out.size; have := HE.out; omega
    have hlen : ys.length ≤ j + 1 := hP.out.2.2
    by_cases c : j < m
    · have hj' : j < xs.length := by rw [HM.out]; exact c
      obtain ⟨x, hx'⟩ : ∃ x, xs.getD j 0 = x := ⟨_, rfl⟩
      have HX := Lib.hid hx'
      obtain ⟨g, off, rfl, hg, cj⟩ := HC.out j c
      have cx : wr.cell? ⟨g, off + j, none⟩ = some (.int .i64 x) := by
        rw [hBl.out.cell (p := ⟨g, off + j, none⟩) hg, cj, hx']
      have i1 : (0 : Int) ≤ (j : Int) := by omega
      have i2 : (j : Int) < (m : Int) := by omega
      clear cj hx'
      have K2 : ∀ (o : Obj), (wr.alloc o).cell? ⟨g, off + j, none⟩ = some (.int .i64 x) := fun o => by
        rw [World.cell?_of_block (heap_alloc_old wr o (World.block_lt_of_cell? wr _ cx))]; exact cx
      cases d with
      | true =>
        have P2 := Lib.hid (put_go hP.out hj')
        rw [HX.out] at P2
        clear K2
        go_wp2_with (at_builtin; refine wpList_push wr (by rfl) _ _ (by rfl) B _ _ (by rfl) hI.out x _ (by rfl) (by omega) s2 ?_; intro v' w3 hn hb; have HN' := Lib.hid hn; have HB2 := Lib.hid hb; clear hn hb)
        go_roundw
        case rel => exact ⟨j + 1, true, _, by omega, rfl, by go_num, HN', P2, hBl.out.trans HB2.out⟩
        case measure => simp [intOf]; omega
      | false =>
        by_cases c1 : x < n
        · have g1 : decide (n ≤ x) = false := by simp; omega
          have P2 := Lib.hid (put_less hP.out hj' (by rw [HX.out]; exact c1))
          rw [HX.out] at P2
          clear K2
          go_wp2_with (at_builtin; refine wpList_push wr (by rfl) _ _ (by rfl) B _ _ (by rfl) hI.out x _ (by rfl) (by omega) s2 ?_; intro v' w3 hn hb; have HN' := Lib.hid hn; have HB2 := Lib.hid hb; clear hn hb)
          go_roundw
          case rel => exact ⟨j + 1, false, _, by omega, rfl, by go_num, HN', P2, hBl.out.trans HB2.out⟩
          case measure => simp [intOf]; omega
        · have g1 : decide (n ≤ x) = true := by simp; omega
          by_cases c2 : n < x
          · have g2 : decide (n < x) = true := by simpa using c2
            have P2 := Lib.hid (put_more hP.out hj' (by rw [HX.out]; exact c2))
            rw [HX.out] at P2
            clear K2
            have KX : Hid (∀ W : World, Below B wr W → W.cell? ⟨g, off + j, none⟩ = some (.int .i64 x)) := fun W hW => by
              rw [hW.cell (p := ⟨g, off + j, none⟩) hg]; exact cx
            have KS : Hid (∀ W : World, Below B wr W → B ≤ W.heap.size) := fun W hW => Nat.le_trans s2 hW.size
            have hlen2 : (ys ++ [n]).length ≤ j + 2 := by rw [List.length_append]; simp; omega
            go_wp2_with (first | (at_builtin; refine wpList_push wr (by rfl) _ _ (by rfl) B _ _ (by rfl) hI.out n _ (by rfl) (by omega) s2 ?_; intro v' w3 hn hb; have HN' := Lib.hid hn; have HB2 := Lib.hid hb; have cx3 := KX.out w3 hb; have s3 := KS.out w3 hb; clear hn hb) | (at_builtin; refine wpList_push w3 (by rfl) _ _ (by rfl) B _ _ (by rfl) HN'.out x _ (by rfl) (by omega) s3 ?_; intro v4 w4 hn hb; have HN4 := Lib.hid hn; have HB4 := Lib.hid hb; clear hn hb))
            go_roundw
            case rel => exact ⟨j + 1, true, _, by omega, rfl, by go_num, HN4, P2, (hBl.out.trans HB2.out).trans HB4.out⟩
            case measure => simp [intOf]; omega
          · have g2 : decide (n < x) = false := by simpa using c2
            have P2 := Lib.hid (put_eq hP.out hj' (by rw [HX.out]; omega))
            rw [HX.out] at P2
            clear K2
            go_wp2_with (at_builtin; refine wpList_push wr (by rfl) _ _ (by rfl) B _ _ (by rfl) hI.out x _ (by rfl) (by omega) s2 ?_; intro v' w3 hn hb; have HN' := Lib.hid hn; have HB2 := Lib.hid hb; clear hn hb)
            go_roundw
            case rel => exact ⟨j + 1, true, _, by omega, rfl, by go_num, HN', P2, hBl.out.trans HB2.out⟩
            case measure => simp [intOf]; omega
    · have ej : j = xs.length := by have := HM.out; omega
      subst ej
      cases d with
      | true =>
        have E := Lib.hid (put_end' hP.out)
        go_wp2
        go_ret
        exact ⟨_, rfl, by rw [HE.out, ← E.out]; exact hI.out, by rw [HE.out]; exact hBl.out⟩
      | false =>
        have E := Lib.hid (put_end hP.out)
        go_wp2_with (at_builtin; refine wpList_push wr (by rfl) _ _ (by rfl) B _ _ (by rfl) hI.out n _ (by rfl) (by omega) s2 ?_; intro v' w3 hn hb; have HN' := Lib.hid hn; have HB2 := Lib.hid hb; clear hn hb)
        go_ret
        exact ⟨_, rfl, by rw [HE.out, ← E.out]; exact HN'.out, by rw [HE.out]; exact hBl.out.trans HB2.out⟩
end Go.Proofs.YtanfodbpgpfjmaaDoor
