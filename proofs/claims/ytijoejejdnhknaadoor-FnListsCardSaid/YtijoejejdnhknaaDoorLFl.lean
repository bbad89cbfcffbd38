/- FnLists: the law. -/
import Derived.Test.YtijoejejdnhknaaDoorLRl
import Derived.Test.YtijoejejdnhknaaDoorDl
import Derived.Test.YtijoejejdnhknaaDoorNums
namespace Go.Proofs.YtijoejejdnhknaaDoor
open Go.RowKit Go.ChangeShapes Go.WideShapes
set_option linter.unusedVariables false

theorem itoa_44 (n : Int) : (∀ b ∈ Lib.itoa n, b ≠ 44) ∧ 1 ≤ (Lib.itoa n).length ∧ Lib.itoa n ≠ [45] := by
  have D : ∀ a, ∀ b ∈ Lib.decDigits a, b ≠ 44 := fun a b hb e => by
    have := (dd_spec a).1 b hb
    rw [e] at this
    exact absurd this.1 (by decide)
  have hp := dd_spec n.natAbs
  refine ⟨fun b hb => ?_, ?_, fun e => ?_⟩
  · unfold Lib.itoa at hb
    split at hb
    · rcases List.mem_cons.1 hb with rfl | hb
      · decide
      · exact D _ b hb
    · exact D _ b hb
  · unfold Lib.itoa
    split
    · simp
    · rw [show n.toNat = n.natAbs by omega]; exact hp.2.2
  · have := (itoa_parts e).1
    rw [show tlB [45] = [] from rfl] at this
    rw [← this] at hp
    exact absurd hp.2.2 (by simp)
theorem cut_tail : ∀ (r : List Int) (x : Int), cut 44 (Lib.itoa x ++ Lib.joinTail [44] (r.map Lib.itoa)) = Lib.itoa x :: r.map Lib.itoa
  | [], x => by
    rw [show Lib.joinTail [44] (([] : List Int).map Lib.itoa) = [] from rfl, List.append_nil, cut_none 44 _ (itoa_44 x).1]; rfl
  | y :: r, x => by
    have e : Lib.joinTail [44] ((y :: r).map Lib.itoa) = 44 :: (Lib.itoa y ++ Lib.joinTail [44] (r.map Lib.itoa)) := by
      unfold Lib.joinTail; simp
    rw [e, cut_part 44 _ _ (itoa_44 x).1, cut_tail r y]; rfl
theorem cut_jn {xs : List Int} (h : xs ≠ []) : cut 44 (jn xs) = xs.map Lib.itoa := by
  cases xs with
  | nil => exact absurd rfl h
  | cons x r =>
    unfold jn
    rw [List.map_cons, Lib.join_cons]
    exact cut_tail r x
/-- A list that has a text. -/
def okL (xs : List Int) : Prop := xs.length ≤ 100 ∧ ∀ x ∈ xs, lsB x = true
theorem okP_dec {x : Int} (h : lsB x = true) : okP (dec x) = true ∧ rdA (dec x) = x := by
  have hb := lsB_yes h
  have := rd_yes (s := dec x) (n := x) (by omega) rfl
  unfold okP
  rw [this.1, this.2, h]
  exact ⟨rfl, rfl⟩
theorem lt_ok {xs : List Int} (h : okL xs) : rlA (ltV xs) = xs ∧ rlB (ltV xs) = true ∧ ltV xs ≠ ⟨#[]⟩ ∧ (ltV xs).size ≤ 1200 := by
  by_cases hn : xs = []
  · subst hn
    rw [ltV_nil]
    exact ⟨rl_dash.1, rl_dash.2, fun e => by simp at e, by decide⟩
  · have e := ltV_ok h.1 hn h.2
    have ec : cut 44 (ltV xs).data.toList = xs.map Lib.itoa := by
      rw [e]
      exact cut_jn hn
    have ect : ctB (ltV xs) = xs.map dec := by
      unfold ctB
      rw [ec, List.map_map]
      rfl
    obtain ⟨x, r, hx⟩ : ∃ x r, xs = x :: r := by
      cases xs with
      | nil => exact absurd rfl hn
      | cons x r => exact ⟨x, r, rfl⟩
    have n1 : ltV xs ≠ ⟨#[45]⟩ := fun k => by
      rw [k, hx, List.map_cons] at ec
      have : (Lib.itoa x :: r.map Lib.itoa) = [[45]] := ec.symm
      exact (itoa_44 x).2.2 (List.cons.inj this).1
    have n2 : ltV xs ≠ ⟨#[]⟩ := fun k => by
      rw [k, hx, List.map_cons] at ec
      have : (Lib.itoa x :: r.map Lib.itoa) = [[]] := ec.symm
      have := (List.cons.inj this).1
      have l := (itoa_44 x).2.1
      rw [this] at l
      simp at l
    have R := rl_ok n1 (by rw [ect, List.length_map]; exact h.1) (fun p hp => by
      rw [ect] at hp
      obtain ⟨y, hy, rfl⟩ := List.mem_map.1 hp
      exact (okP_dec (h.2 y hy)).1)
    refine ⟨?_, R.2, n2, ?_⟩
    · rw [R.1, ect, List.map_map]
      conv => rhs; rw [← List.map_id xs]
      refine List.map_congr_left fun y hy => ?_
      exact (okP_dec (h.2 y hy)).2
    · rw [e]
      have := jn_len xs h.2
      have := h.1
      show (jn xs).toArray.size ≤ 1200
      rw [List.size_toArray]; omega
theorem lt_no {xs : List Int} (h : ¬ okL xs) : ltV xs = ⟨#[]⟩ := by
  by_cases c : 100 < xs.length
  · exact ltV_big c
  · by_cases d : ∀ x ∈ xs, lsB x = true
    · exact absurd ⟨by omega, d⟩ h
    · obtain ⟨x, hx⟩ := Classical.not_forall.1 d
      obtain ⟨hm, hb⟩ := Classical.not_imp.1 hx
      exact ltV_bad (by omega) hm (by simpa using hb)
theorem rl_empty : rlA ⟨#[]⟩ = [] ∧ rlB ⟨#[]⟩ = false := by
  have n : (⟨#[]⟩ : ByteArray) ≠ ⟨#[45]⟩ := fun e => by simp at e
  have c : ctB ⟨#[]⟩ = [⟨#[]⟩] := rfl
  have r : rdB ⟨#[]⟩ = false := (rd_no (s := ⟨#[]⟩) (fun k _ e => by
    have l := (itoa_44 k).2.1
    rw [← dec_list, e] at l
    simp at l)).2
  exact rl_bad n (by rw [c]; decide) (p := ⟨#[]⟩) (by rw [c]; simp) (by unfold okP; rw [r]; rfl)

set_option maxHeartbeats 4000000 in
theorem law_FnLists (a : Option Addr) (len cap : Nat) (zs : List Int) (w : World) (h : IsRow .u8 w a len cap zs) (ht : Laid6 w) :
    Calls Tryd.prog 3 #[.slice a len cap] w fun r w' => r = .returned (.bool true) ∧ Below w.heap.size w w' := by
  by_cases hbig : 1048576 < len
  · have hb : (1048576 : Int) < (len : Int) := by omega
    clear h ht
    go_enter Tryd.func3, Tryd.ntmps3
    go_wp2_with (go_at_call 8; go_in)
    go_ret
    exact ⟨rfl, Below.refl _ _⟩
  have hb : ¬ (1048576 : Int) < (len : Int) := by omega
  have H := Lib.hid h
  have HT := Lib.hid ht
  have hl : len ≤ 1048576 := by omega
  clear h ht hbig
  go_enter Tryd.func3, Tryd.ntmps3
  go_wp2_with (go_at_call 8; go_in)
  refine (drawListText _ a len cap zs H.out hl).mono ?_
  rintro e w1 ⟨u, xs, rfl, iu, hx, hi, b1⟩
  have IU := Lib.hid iu.at
  have T1 := Lib.hid b1
  have II := Lib.hid hi
  clear iu b1 hi
  go_wp2_with fail
  refine (ilist xs u _ IU.out (HT.out.below T1.out HT.out).1.1).mono ?_
  rintro e w2 ⟨rfl, b2⟩
  have IU2 := Lib.hid (IU.out.below b2 (Nat.le_refl _))
  have T2 := Lib.hid (t_step T1.out b2)
  clear b2
  by_cases hok : okL xs
  · obtain ⟨e1, e2, e3, e4⟩ := lt_ok hok
    have HR := Lib.hid (irl (ltV xs) w2 (by omega) (HT.out.below T2.out HT.out))
    rw [e1, e2] at HR
    obtain ⟨s, hs⟩ : ∃ s, ltV xs = s := ⟨_, rfl⟩
    rw [hs] at HR e3 ⊢
    have t0 : (s.toList == []) = false := by
      simp only [beq_eq_false_iff_ne, ne_eq]
      intro e
      apply e3
      apply ByteArray.ext
      rw [ByteArray.toList_eq] at e
      exact Array.toList_inj.1 e
    have OK := Lib.hid hok
    clear hok e1 e2 e3 e4 hs
    go_wp2_with fail
    refine HR.out.mono ?_
    rintro e w3 ⟨v3, rfl, i3, b3⟩
    have I3 := Lib.hid i3.at
    have IU3 := Lib.hid (IU2.out.below b3 (Nat.le_refl _))
    have T3 := Lib.hid (t_step T2.out b3)
    clear i3 b3
    go_wp2_with fail
    refine (nums_same _ v3 u xs I3.out IU3.out).mono ?_
    rintro e w4 ⟨rfl, k4, rfl⟩
    have T4 := Lib.hid (Go.below_drewN T3.out k4)
    have IU4 := Lib.hid (IU3.out.drewN k4)
    obtain ⟨w5, hw5⟩ : ∃ w5, w3.drewN k4 = w5 := ⟨_, rfl⟩
    rw [hw5] at T4 IU4 ⊢
    clear hw5
    obtain ⟨ad, cp, rfl, hc⟩ := part_of IU4.out
    have HC := Lib.hid hc
    have MM : Hid (∀ j, j < xs.length → xs.getD j 0 ∈ xs) := fun j hj => mem_getD hj
    obtain ⟨m, hm⟩ : ∃ m, xs.length = m := ⟨_, rfl⟩
    rw [hm] at HC MM hx ⊢
    have HM := Lib.hid hm
    clear hc hm
    go_wp2
    go_loopw [7] (fun i wr => ∃ (j : Nat), j ≤ m ∧ i = .int .i64 j ∧ Hid (Below w.heap.size w wr) ∧ Hid (Below w5.heap.size w5 wr)) (fun i _ => m - (intOf i).toNat)
    case atStart => exact ⟨0, by omega, rfl, T4.out, Below.refl _ _⟩
    case round =>
      obtain ⟨j, hj, rfl, hT, hB⟩ := hrel
      by_cases c : j < m
      · have k1 : decide (j < m) = true := decide_eq_true c
        obtain ⟨g, off, rfl, hg, cj⟩ := HC.out j c
        have MX := MM.out j c
        obtain ⟨x, hx'⟩ : ∃ x, xs.getD j 0 = x := ⟨_, rfl⟩
        rw [hx'] at cj MX
        have cx : wr.cell? ⟨g, off + j, none⟩ = some (.int .i64 x) := by
          rw [hB.out.cell (p := ⟨g, off + j, none⟩) hg, cj]
        have j0 : (0 : Int) ≤ (j : Int) := by omega
        have j1 : (j : Int) < (m : Int) := by omega
        have w3' := IntWalk.i64_in ((j : Int) + 1) (by omega)
        have hb := lsB_yes (OK.out.2 x MX)
        have HD := Lib.hid (fun W ht => idec x W (by omega) (by omega) ht)
        have R := rd_yes (s := dec x) (n := x) (by omega) rfl
        have HR := Lib.hid (fun W ht => iread (dec x) W (by
          have := itoa_len (OK.out.2 x MX)
          have e : (dec x).size = (Lib.itoa x).length := by unfold dec; show (Lib.itoa x).toArray.size = _; rw [List.size_toArray]
          omega) ht)
        rw [R.1, R.2] at HR
        obtain ⟨d, hd⟩ : ∃ d, dec x = d := ⟨_, rfl⟩
        simp only [hd] at HD HR
        have t2 : (x != x) = false := by simp
        clear hx' cj hg MX R hd hb
        go_wp2_with fail
        refine (HD.out _ (HT.out.below hT.out HT.out).1.1).mono ?_
        rintro e w6 ⟨rfl, b6⟩
        have T6 := Lib.hid (t_step hT.out b6)
        have B6 := Lib.hid (hB.out.trans (b6.mono hB.out.size))
        clear b6
        go_wp2_with fail
        refine (HR.out _ (HT.out.below T6.out HT.out).1).mono ?_
        rintro e w7 ⟨rfl, b7⟩
        have T7 := Lib.hid (t_step T6.out b7)
        have B7 := Lib.hid (B6.out.trans (b7.mono B6.out.size))
        have cx' : w7.cell? ⟨g, off + j, none⟩ = some (.int .i64 x) := by
          obtain ⟨g', off', he, hg', cj⟩ := HC.out j c
          obtain ⟨rfl, rfl⟩ : g = g' ∧ off = off' := by simpa using he
          rw [b7.cell (p := ⟨g, off + j, none⟩) (by show g < _; have := B6.out.size; omega)]
          have hb6 := B6.out
          rw [hb6.cell (p := ⟨g, off + j, none⟩) hg', cj, ← cj, ← hB.out.cell (p := ⟨g, off + j, none⟩) hg', cx]
        clear b7
        go_wp2
        go_roundw
        case rel => exact ⟨j + 1, by omega, by go_num, T7, B7⟩
        case measure => simp [intOf]; omega
      · have k1 : decide (j < m) = false := decide_eq_false c
        go_wp2
        go_ret
        exact ⟨rfl, hT.out⟩
  · have e1 := lt_no hok
    rw [e1]
    have HR := Lib.hid (irl ⟨#[]⟩ w2 (by decide) (HT.out.below T2.out HT.out))
    rw [rl_empty.1, rl_empty.2] at HR
    clear hok
    go_wp2_with fail
    refine HR.out.mono ?_
    rintro e w3 ⟨v3, rfl, i3, b3⟩
    have IU3 := Lib.hid (IU2.out.below b3 (Nat.le_refl _))
    have T3 := Lib.hid (t_step T2.out b3)
    clear i3 b3
    have HL := Lib.hid (slist xs u w3 IU3.out)
    rw [e1] at HL
    clear e1
    go_wp2_with fail
    refine HL.out.mono ?_
    rintro e w4 ⟨rfl, b4⟩
    have T4 := Lib.hid (t_step T3.out b4)
    clear b4
    go_wp2
    go_ret
    exact ⟨rfl, T4.out⟩
end Go.Proofs.YtijoejejdnhknaaDoor
