/- ListText, by both packages. -/
import Derived.Test.YtijoejejdnhknaaDoorPowt
import Derived.Lib.Join
import Derived.Laws.MakeOwn
namespace Go.Proofs.YtijoejejdnhknaaDoor
open Go.RowKit Go.ChangeShapes Go.WideShapes
set_option linter.unusedVariables false

theorem wrapk {n : Int} (h : -9223372036854775808 ≤ n ∧ n ≤ 9223372036854775807) : IntKind.i64.wrap n = n := IntWalk.i64_in _ h
/-- A listed number. -/
def lsB (n : Int) : Bool := decide (-999999999 ≤ n) && decide (n ≤ 999999999)
/-- The text of numbers. -/
def jn (xs : List Int) : List UInt8 := Lib.join (xs.map Lib.itoa) [44]
theorem jn_nil : jn [] = [] := rfl
theorem jn_one (x : Int) : jn [x] = Lib.itoa x := Lib.join_one _ _
theorem jn_snoc {xs : List Int} (h : xs ≠ []) (y : Int) : jn (xs ++ [y]) = jn xs ++ [44] ++ Lib.itoa y := by
  cases xs with
  | nil => exact absurd rfl h
  | cons x r =>
    unfold jn
    rw [List.cons_append, List.map_cons, List.map_append, Lib.join_cons, List.map_cons (l := r), Lib.join_cons]
    unfold Lib.joinTail
    simp
theorem itoa_len {n : Int} (h : lsB n = true) : (Lib.itoa n).length ≤ 11 := by
  unfold lsB at h
  simp only [Bool.and_eq_true, decide_eq_true_eq] at h
  unfold Lib.itoa
  split
  · have := decDigits_len 9 n.natAbs (by omega)
    simp; omega
  · have := decDigits_len 9 n.toNat (by omega)
    omega
theorem jn_len : ∀ (xs : List Int), (∀ x ∈ xs, lsB x = true) → (jn xs).length ≤ 12 * xs.length
  | [], _ => Nat.le_refl _
  | x :: r, h => by
    have k : ∀ r : List Int, (∀ x ∈ r, lsB x = true) → (Lib.joinTail [44] (r.map Lib.itoa)).length ≤ 12 * r.length := by
      intro r
      induction r with
      | nil => intro _; exact Nat.le_refl _
      | cons y r ih =>
        intro h
        have a := ih (fun z hz => h z (List.mem_cons_of_mem _ hz))
        have b := itoa_len (h y (List.mem_cons_self ..))
        unfold Lib.joinTail at a ⊢
        simp at a ⊢
        omega
    have a := k r (fun z hz => h z (List.mem_cons_of_mem _ hz))
    have b := itoa_len (h x (List.mem_cons_self ..))
    unfold jn
    rw [List.map_cons, Lib.join_cons, List.length_append, List.length_cons]
    omega
/-- What ListText answers. -/
noncomputable def ltV (xs : List Int) : ByteArray := if 100 < xs.length then ⟨#[]⟩ else if xs = [] then ⟨#[45]⟩ else if (xs.all lsB) = true then ⟨(jn xs).toArray⟩ else ⟨#[]⟩
theorem ltV_big {xs : List Int} (h : 100 < xs.length) : ltV xs = ⟨#[]⟩ := by unfold ltV; rw [if_pos h]
theorem ltV_nil : ltV [] = ⟨#[45]⟩ := rfl
theorem ltV_ok {xs : List Int} (h : xs.length ≤ 100) (hn : xs ≠ []) (ha : ∀ x ∈ xs, lsB x = true) : ltV xs = ⟨(jn xs).toArray⟩ := by
  unfold ltV
  rw [if_neg (by omega), if_neg hn, if_pos (List.all_eq_true.2 ha)]
theorem ltV_bad {xs : List Int} (h : xs.length ≤ 100) {x : Int} (hx : x ∈ xs) (hb : lsB x = false) : ltV xs = ⟨#[]⟩ := by
  unfold ltV
  rw [if_neg (by omega), if_neg (fun e => by rw [e] at hx; simp at hx), if_neg (fun e => by have := List.all_eq_true.1 e x hx; rw [hb] at this; cases this)]
theorem take_getD {xs : List Int} {j : Nat} (h : j < xs.length) : xs.take (j + 1) = xs.take j ++ [xs.getD j 0] := by
  rw [List.take_succ_eq_append_getElem h]
  simp [List.getD, List.getElem?_eq_getElem h]
theorem mem_getD {xs : List Int} {j : Nat} (h : j < xs.length) : xs.getD j 0 ∈ xs := by
  rw [show xs.getD j 0 = xs[j] by simp [List.getD, List.getElem?_eq_getElem h]]
  exact List.getElem_mem _
theorem part_of {w : World} {v : Value} {xs : List Int} (hv : IntsAt w v xs) : ∃ a cap, v = .slice a xs.length cap ∧ ∀ j, j < xs.length → ∃ g off, a = some ⟨g, off, none⟩ ∧ g < w.heap.size ∧ w.cell? ⟨g, off + j, none⟩ = some (.int .i64 (xs.getD j 0)) := by
  obtain ⟨_, ⟨rfl, a, cap, rfl⟩ | ⟨g, off, cap, rfl, hc⟩⟩ := hv
  · exact ⟨a, cap, rfl, fun j hj => by simp at hj⟩
  · exact ⟨_, cap, rfl, fun j hj => ⟨g, off, rfl, World.block_lt_of_cell? w _ (hc j hj), hc j hj⟩⟩

set_option maxHeartbeats 4000000 in
theorem slist (xs : List Int) (v : Value) (w : World) (hv : IntsAt w v xs) :
    Calls Tryd.prog 12 #[v] w fun e w' => e = .returned (.string (ltV xs)) ∧ Below w.heap.size w w' := by
  have hml := hv.1
  obtain ⟨a, cap, rfl, hc⟩ := part_of hv
  obtain ⟨m, hm⟩ : ∃ m, xs.length = m := ⟨_, rfl⟩
  by_cases hbig : 100 < xs.length
  · have V := Lib.hid (ltV_big hbig)
    have g1 : decide ((100 : Int) < (xs.length : Int)) = true := decide_eq_true (by omega)
    clear hc hv hm hbig
    go_enter Tryd.func12, Tryd.ntmps12
    go_wp2
    go_ret
    exact ⟨by rw [V.out]; rfl, Below.refl _ _⟩
  have g1 : decide ((100 : Int) < (xs.length : Int)) = false := decide_eq_false (by omega)
  have g1' : decide (100 < xs.length) = false := decide_eq_false (by omega)
  by_cases hnil : xs = []
  · subst hnil
    have V := Lib.hid ltV_nil
    clear hc hv hm hbig
    go_enter Tryd.func12, Tryd.ntmps12
    go_wp2
    go_ret
    exact ⟨by rw [V.out]; rfl, Below.refl _ _⟩
  have hpos := List.length_pos_iff.2 hnil
  have g2 : ((xs.length : Int) == 0) = false := by simp; omega
  have g2' : (xs.length == 0) = false := by simp; omega
  have HC := Lib.hid hc
  have OKV : Hid ((∀ x ∈ xs, lsB x = true) → ltV xs = ⟨(jn xs).toArray⟩) := fun h => ltV_ok (by omega) hnil h
  have BAD : Hid (∀ x, x ∈ xs → lsB x = false → ltV xs = ⟨#[]⟩) := fun x hx hb => ltV_bad (by omega) hx hb
  have TK : Hid (∀ j, j < xs.length → xs.take (j + 1) = xs.take j ++ [xs.getD j 0]) := fun j hj => take_getD hj
  have MM : Hid (∀ j, j < xs.length → xs.getD j 0 ∈ xs) := fun j hj => mem_getD hj
  have HN := Lib.hid hnil
  have m100 : m ≤ 100 := by omega
  rw [hm] at HC TK MM g1 g1' g2 g2' hpos hml ⊢
  have HM := Lib.hid hm
  clear hc hv hbig hnil hm
  go_enter Tryd.func12, Tryd.ntmps12
  go_wp2
  go_loopw [3, 4] (fun o i wr => ∃ (j : Nat) (L : List UInt8), j ≤ m ∧ i = .int .i64 j ∧ o = .string ⟨L.toArray⟩ ∧ Hid (L = jn (xs.take j)) ∧ Hid (∀ x ∈ xs.take j, lsB x = true) ∧ Hid (Below w.heap.size w wr)) (fun _ i _ => m - (intOf i).toNat)
  case atStart => exact ⟨0, [], by omega, rfl, rfl, rfl, fun x hx => by simp at hx, Below.refl _ _⟩
  case round =>
    obtain ⟨j, L, hj, rfl, rfl, hL, hA, hBl⟩ := hrel
    have lL : L.length ≤ 1200 := by
      have a := jn_len (xs.take j) hA.out
      have b : (xs.take j).length ≤ 100 := by rw [List.length_take, HM.out]; omega
      rw [hL.out]; omega
    by_cases c : j < m
    · have k1 : decide (j < m) = true := decide_eq_true c
      obtain ⟨g, off, rfl, hg, cj⟩ := HC.out j c
      have TK2 := TK.out j c
      have MX := MM.out j c
      obtain ⟨x, hx⟩ : ∃ x, xs.getD j 0 = x := ⟨_, rfl⟩
      rw [hx] at cj TK2 MX
      have cx : wr.cell? ⟨g, off + j, none⟩ = some (.int .i64 x) := by
        rw [hBl.out.cell (p := ⟨g, off + j, none⟩) hg, cj]
      have j0 : (0 : Int) ≤ (j : Int) := by omega
      have j1 : (j : Int) < (m : Int) := by omega
      have w3 := wrapk (n := (j : Int) + 1) (by omega)
      cases hb : lsB x with
      | false =>
        have V := Lib.hid (BAD.out x MX hb)
        have hI := Lib.hid (fun W : World => in_no x (-999999999) 999999999 W (by
          by_cases e : -999999999 ≤ x ∧ x ≤ 999999999
          · unfold lsB at hb; rw [decide_eq_true e.1, decide_eq_true e.2] at hb; cases hb
          · omega))
        clear TK2 MX hx hb cj hg
        go_wp2_with (go_at_call 31; refine (hI.out _).mono ?_; rintro e w' ⟨rfl, rfl⟩)
        go_ret
        exact ⟨by rw [V.out]; rfl, hBl.out⟩
      | true =>
        have hbd : -999999999 ≤ x ∧ x ≤ 999999999 := by
          unfold lsB at hb
          simpa only [Bool.and_eq_true, decide_eq_true_eq] using hb
        have hI := Lib.hid (fun W : World => in_yes x (-999999999) 999999999 W hbd.1 hbd.2)
        have hD := Lib.hid (fun W : World => sdec x W (by omega) (by omega))
        have il := itoa_len hb
        have A2 : Hid (∀ y ∈ xs.take (j + 1), lsB y = true) := fun y hy => by
          rw [TK2] at hy
          rcases List.mem_append.1 hy with hy | hy
          · exact hA.out y hy
          · simp only [List.mem_singleton] at hy; rw [hy]; exact hb
        obtain ⟨D, hDD⟩ : ∃ D, Lib.itoa x = D := ⟨_, rfl⟩
        have ed : dec x = ⟨D.toArray⟩ := by unfold dec; rw [hDD]
        rw [hDD] at il
        simp only [ed] at hD
        obtain ⟨h1, h2⟩ := hbd
        by_cases z : j = 0
        · have k2 : decide (0 < j) = false := decide_eq_false (by omega)
          have k2' : decide ((0 : Int) < (j : Int)) = false := decide_eq_false (by omega)
          have sz : ¬ ((⟨L.toArray⟩ : ByteArray).size + (⟨D.toArray⟩ : ByteArray).size > 9223372036854775807) := by simp [ByteArray.size]; omega
          have ap : (⟨L.toArray⟩ : ByteArray) ++ ⟨D.toArray⟩ = ⟨(L ++ D).toArray⟩ := ByteArray.mk_append_mk _ _
          have L2 : Hid (L ++ D = jn (xs.take (j + 1))) := by
            unfold Hid
            rw [TK2, hL.out, z, List.take_zero, List.nil_append, jn_nil, List.nil_append, jn_one, hDD]
          clear TK2 MX hx hb cj hg z hDD ed
          go_wp2_with (first | (go_at_call 31; refine (hI.out _).mono ?_; rintro e w' ⟨rfl, rfl⟩) | (go_at_call 32; refine (hD.out _).mono ?_; rintro e w' ⟨rfl, b1⟩; have B1 := Lib.hid (hBl.out.trans (b1.mono hBl.out.size)); clear b1))
          go_roundw
          case rel => exact ⟨j + 1, L ++ D, by omega, by go_num, rfl, L2, A2, B1⟩
          case measure => simp [intOf]; omega
        · have k2 : decide (0 < j) = true := decide_eq_true (by omega)
          have k2' : decide ((0 : Int) < (j : Int)) = true := decide_eq_true (by omega)
          have sz1 : ¬ ((⟨L.toArray⟩ : ByteArray).size + (⟨#[44]⟩ : ByteArray).size > 9223372036854775807) := by simp [ByteArray.size]; omega
          have ap1 : (⟨L.toArray⟩ : ByteArray) ++ ⟨#[44]⟩ = ⟨(L ++ [44]).toArray⟩ := by rw [show (⟨#[44]⟩ : ByteArray) = ⟨[44].toArray⟩ from rfl, ByteArray.mk_append_mk]
          obtain ⟨M, hM⟩ : ∃ M, L ++ [44] = M := ⟨_, rfl⟩
          have lM : M.length ≤ 1201 := by rw [← hM]; simp; omega
          rw [hM] at ap1
          have sz : ¬ ((⟨M.toArray⟩ : ByteArray).size + (⟨D.toArray⟩ : ByteArray).size > 9223372036854775807) := by simp [ByteArray.size]; omega
          have ap : (⟨M.toArray⟩ : ByteArray) ++ ⟨D.toArray⟩ = ⟨(M ++ D).toArray⟩ := ByteArray.mk_append_mk _ _
          have L2 : Hid (M ++ D = jn (xs.take (j + 1))) := by
            unfold Hid
            rw [TK2, jn_snoc (fun e => by have := congrArg List.length e; rw [List.length_take, HM.out] at this; simp at this; omega), ← hL.out, hM, hDD]
          clear TK2 MX hx hb cj hg z hDD ed hM
          go_wp2_with (first | (go_at_call 31; refine (hI.out _).mono ?_; rintro e w' ⟨rfl, rfl⟩) | (go_at_call 32; refine (hD.out _).mono ?_; rintro e w' ⟨rfl, b1⟩; have B1 := Lib.hid (hBl.out.trans (b1.mono hBl.out.size)); clear b1))
          go_roundw
          case rel => exact ⟨j + 1, M ++ D, by omega, by go_num, rfl, L2, A2, B1⟩
          case measure => simp [intOf]; omega
    · have k1 : decide (j < m) = false := decide_eq_false c
      obtain rfl : j = m := by omega
      have ex : xs.take j = xs := List.take_of_length_le (by rw [HM.out]; exact Nat.le_refl _)
      have V : Hid (ltV xs = ⟨L.toArray⟩) := by
        unfold Hid
        have h := hA.out
        rw [ex] at h
        rw [OKV.out h, hL.out, ex]
      clear ex
      go_wp2
      go_ret
      exact ⟨by rw [V.out]; rfl, hBl.out⟩

theorem Tryd.infoStr : (Tryd.prog.info? 9).map (fun i => (i.zero, i.size, i.bytes)) = some (some (.string ByteArray.empty), 1, 16) := by kernel_rfl
theorem wset (ws : List ByteArray) (j n : Nat) (h : j < ws.length) (hn : ws.length = n) : (ws.take j ++ List.replicate (n - j) ByteArray.empty).set j (ws.getD j ByteArray.empty) = ws.take (j + 1) ++ List.replicate (n - (j + 1)) ByteArray.empty := by
  have e : (ws.take j).length = j := by rw [List.length_take]; omega
  rw [List.set_append_right _ _ (by omega), e, Nat.sub_self, show n - j = (n - (j + 1)) + 1 by omega, List.replicate_succ, List.set_cons_zero, List.take_succ_eq_append_getElem h, List.append_assoc]
  simp [List.getD, List.getElem?_eq_getElem h]

set_option maxHeartbeats 4000000 in
theorem ilist (xs : List Int) (v : Value) (w : World) (hv : IntsAt w v xs) (ht : PowTab w) :
    Calls Tryd.prog 10 #[v] w fun e w' => e = .returned (.string (ltV xs)) ∧ Below w.heap.size w w' := by
  have hml := hv.1
  obtain ⟨a, cap, rfl, hc⟩ := part_of hv
  obtain ⟨m, hm⟩ : ∃ m, xs.length = m := ⟨_, rfl⟩
  by_cases hnil : xs = []
  · subst hnil
    have V := Lib.hid ltV_nil
    clear hc hv hm
    go_enter Tryd.func10, Tryd.ntmps10
    go_wp2
    go_ret
    exact ⟨by rw [V.out]; rfl, Below.refl _ _⟩
  have hpos := List.length_pos_iff.2 hnil
  have g2 : ((xs.length : Int) == 0) = false := by simp; omega
  have g2' : (xs.length == 0) = false := by simp; omega
  by_cases hbig : 100 < xs.length
  · have V := Lib.hid (ltV_big hbig)
    have g1 : decide ((100 : Int) < (xs.length : Int)) = true := decide_eq_true (by omega)
    clear hc hv hm hbig hnil
    go_enter Tryd.func10, Tryd.ntmps10
    go_wp2
    go_ret
    exact ⟨by rw [V.out]; rfl, Below.refl _ _⟩
  have g1 : decide ((100 : Int) < (xs.length : Int)) = false := decide_eq_false (by omega)
  have g1' : decide (100 < xs.length) = false := decide_eq_false (by omega)
  have HC := Lib.hid hc
  have T := Lib.hid ht
  have OKV : Hid ((∀ x ∈ xs, lsB x = true) → ltV xs = ⟨(jn xs).toArray⟩) := fun h => ltV_ok (by omega) hnil h
  have BAD : Hid (∀ x, x ∈ xs → lsB x = false → ltV xs = ⟨#[]⟩) := fun x hx hb => ltV_bad (by omega) hx hb
  have TK : Hid (∀ j, j < xs.length → xs.take (j + 1) = xs.take j ++ [xs.getD j 0]) := fun j hj => take_getD hj
  have MM : Hid (∀ j, j < xs.length → xs.getD j 0 ∈ xs) := fun j hj => mem_getD hj
  have m100 : m ≤ 100 := by omega
  have JL := Lib.hid (fun h => jn_len xs h)
  obtain ⟨ws, hws⟩ : ∃ ws, xs.map dec = ws := ⟨_, rfl⟩
  have WL : ws.length = m := by rw [← hws, List.length_map, hm]
  have WD : Hid (∀ j, j < m → ws.getD j ByteArray.empty = dec (xs.getD j 0)) := fun j hj => by
    rw [← hws]
    simp [List.getD, List.getElem?_eq_getElem (show j < xs.length by omega)]
  have WJ : Hid (Lib.join (ws.map (·.data.toList)) (⟨#[44]⟩ : ByteArray).data.toList = jn xs) := by
    unfold Hid jn
    rw [← hws, List.map_map]
    congr 1
  have HWL := Lib.hid WL
  rw [hm] at HC TK MM g1 g1' g2 g2' hpos hml JL ⊢
  have HM := Lib.hid hm
  have hmk := fun W : World => run_make_row' (P := Tryd.prog) 43 9 (.string ByteArray.empty) 16 Tryd.underlying43 Tryd.infoStr rfl .i64 .i64 m (by omega) (by omega) W
  have hrow0 : Hid (∀ W : World, (W.alloc (.cells (madeCells #[.string ByteArray.empty] m) 9)).ownsRow W.heap.size 9 1 (.slice (some ⟨W.heap.size, 0, none⟩) m m) m ((ws.take 0 ++ List.replicate (m - 0) ByteArray.empty).map Value.string)) := fun W => by
    have := World.ownsRow_lit (base := W.heap.size) (e := 9) (size := 1) W (madeCells #[.string ByteArray.empty] m) m (Nat.le_refl _) (by unfold maxLen; omega) (by simp [size_madeCells])
    rw [toList_madeCells_one] at this
    simpa using this
  clear hc hv hbig hnil hm hws WL
  go_enter Tryd.func10, Tryd.ntmps10
  go_wp2
  have RO := Lib.hid (hrow0.out w)
  have BO : Hid (Below w.heap.size w (w.alloc (.cells (madeCells #[.string ByteArray.empty] m) 9))) := (Below.refl _ _).alloc (Nat.le_refl _) _
  obtain ⟨wo, hwo⟩ : ∃ wo, w.alloc (.cells (madeCells #[.string ByteArray.empty] m) 9) = wo := ⟨_, rfl⟩
  rw [hwo] at RO BO ⊢
  obtain ⟨B, hB⟩ : ∃ B, w.heap.size = B := ⟨_, rfl⟩
  rw [hB] at RO BO HC ⊢
  have HE := Lib.hid hB
  have T0 := T.out.pos
  rw [hB] at T0
  clear hwo hB hmk hrow0
  go_loopw [17] (fun i wr => ∃ (j : Nat), j ≤ m ∧ i = .int .i64 j ∧ Hid (∀ x ∈ xs.take j, lsB x = true) ∧ Hid (wr.ownsRow B 9 1 (.slice (some ⟨B, 0, none⟩) m m) m ((ws.take j ++ List.replicate (m - j) ByteArray.empty).map Value.string)) ∧ Hid (Below B w wr)) (fun i _ => m - (intOf i).toNat)
  case atStart => exact ⟨0, by omega, rfl, fun x hx => by simp at hx, RO, BO⟩
  case round =>
    obtain ⟨j, hj, rfl, hA, ho, hBl⟩ := hrel
    by_cases c : j < m
    · have k1 : decide (j < m) = true := decide_eq_true c
      obtain ⟨g, off, rfl, hg, cj⟩ := HC.out j c
      have TK2 := TK.out j c
      have MX := MM.out j c
      have WX := WD.out j c
      obtain ⟨x, hx⟩ : ∃ x, xs.getD j 0 = x := ⟨_, rfl⟩
      rw [hx] at cj TK2 MX WX
      have cx : wr.cell? ⟨g, off + j, none⟩ = some (.int .i64 x) := by
        rw [hBl.out.cell (p := ⟨g, off + j, none⟩) hg, cj]
      have j0 : (0 : Int) ≤ (j : Int) := by omega
      have j1 : (j : Int) < (m : Int) := by omega
      have w3 := wrapk (n := (j : Int) + 1) (by omega)
      cases hb : lsB x with
      | false =>
        have V := Lib.hid (BAD.out x MX hb)
        have hr : x < -999999999 ∨ (¬ x < -999999999 ∧ 999999999 < x) := by
          by_cases e : -999999999 ≤ x ∧ x ≤ 999999999
          · unfold lsB at hb; rw [decide_eq_true e.1, decide_eq_true e.2] at hb; cases hb
          · omega
        clear TK2 MX hx hb cj hg WX
        rcases hr with h | ⟨h, h'⟩
        all_goals
          go_wp2
          go_ret
          exact ⟨by rw [V.out]; rfl, by rw [HE.out]; exact hBl.out⟩
      | true =>
        have hbd : -999999999 ≤ x ∧ x ≤ 999999999 := by
          unfold lsB at hb
          simpa only [Bool.and_eq_true, decide_eq_true_eq] using hb
        obtain ⟨h1, h2⟩ := hbd
        have n1 : decide (x < -999999999) = false := decide_eq_false (by omega)
        have n2 : decide ((999999999 : Int) < x) = false := decide_eq_false (by omega)
        have hD := Lib.hid (idec x wr (by omega) (by omega) (T.out.below hBl.out T0))
        have A2 : Hid (∀ y ∈ xs.take (j + 1), lsB y = true) := fun y hy => by
          rw [TK2] at hy
          rcases List.mem_append.1 hy with hy | hy
          · exact hA.out y hy
          · simp only [List.mem_singleton] at hy; rw [hy]; exact hb
        obtain ⟨D, hDD⟩ : ∃ D, dec x = D := ⟨_, rfl⟩
        rw [hDD] at hD WX
        have HWX := Lib.hid WX
        clear TK2 MX hx hb cj hg WX hDD
        go_wp2_with fail
        refine hD.out.mono ?_
        rintro e w4 ⟨rfl, b4⟩
        have s4 : B ≤ wr.heap.size := by have := hBl.out.size; have := HE.out; omega
        have hb4 : Hid (Below B w w4) := hBl.out.trans (b4.mono s4)
        have ho4 : Hid (w4.ownsRow B 9 1 (.slice (some ⟨B, 0, none⟩) m m) m ((ws.take j ++ List.replicate (m - j) ByteArray.empty).map Value.string)) := World.ownsRow.kept (row := none) ho.out ⟨b4.os, b4.tape, b4.output, b4.size, fun i hi _ => b4.block i hi⟩ (by simp [Value.ownBlock])
        obtain ⟨old, hold⟩ : ∃ old, w4.cell? ⟨B, j, none⟩ = some old := by
          rw [ho4.out.cellAt j (by omega), List.getElem?_eq_getElem (by have := ho4.out.1; omega)]; exact ⟨_, rfl⟩
        have hf : w4.frozen? ⟨B, j, none⟩ = false := ho4.out.frozenAt j
        have S1 : Hid ((w4.setCell ⟨B, j, none⟩ (.string D)).ownsRow B 9 1 (.slice (some ⟨B, 0, none⟩) m m) m ((ws.take (j + 1) ++ List.replicate (m - (j + 1)) ByteArray.empty).map Value.string)) := by
          have := (ho4.out.stored j (.string D)).1
          rw [← List.map_set, ← HWX.out, wset ws j m (by rw [HWL.out]; exact c) HWL.out, HWX.out] at this
          exact this
        have S2 : Hid (Below B w (w4.setCell ⟨B, j, none⟩ (.string D))) := hb4.out.setCell (Nat.le_refl _) _
        clear b4
        go_wp2
        go_roundw
        case rel => exact ⟨j + 1, by omega, by go_num, A2, S1, S2⟩
        case measure => simp [intOf]; omega
    · have k1 : decide (j < m) = false := decide_eq_false c
      obtain rfl : j = m := by omega
      have hA' : ∀ x ∈ xs, lsB x = true := by
        have h := hA.out
        rw [show xs.take j = xs from List.take_of_length_le (by rw [HM.out]; exact Nat.le_refl _)] at h
        exact h
      have V := Lib.hid (OKV.out hA')
      have ho' := ho.out
      rw [Nat.sub_self, List.replicate_zero, List.append_nil, List.take_of_length_le (by rw [HWL.out]; exact Nat.le_refl _)] at ho'
      have hbk : B < wr.heap.size := (World.ownsRow.lt ho' B rfl).2
      have HJ := Lib.hid (Go.Proofs.Tryd.strings_Join B 0 j ws ⟨#[44]⟩ wr (fun i x hi => by
        rw [Nat.zero_add, World.ownsRow.cellAt ho' i (by have := (List.getElem?_eq_some_iff.1 hi).1; have := HWL.out; omega), List.getElem?_map, hi]; rfl) hbk (by have := HWL.out; omega) (by have := HWL.out; omega) (by rw [WJ.out]; have := JL.out hA'; omega))
      rw [WJ.out, HWL.out] at HJ
      clear hA' ho' hbk
      go_wp2_with fail
      refine HJ.out.mono ?_
      rintro e w5 ⟨rfl, b5⟩
      have s5 : B ≤ wr.heap.size := by have := hBl.out.size; have := HE.out; omega
      have B5 := Lib.hid (hBl.out.trans (b5.mono s5))
      clear b5
      go_wp2
      go_ret
      exact ⟨by rw [V.out]; rfl, by rw [HE.out]; exact B5.out⟩
end Go.Proofs.YtijoejejdnhknaaDoor
