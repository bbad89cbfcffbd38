/- ReadDecimal by the model, and the law. -/
import Derived.Test.YtijoejejdnhknaaDoorRd
namespace Go.Proofs.YtijoejejdnhknaaDoor
open Go.RowKit Go.ChangeShapes Go.WideShapes
set_option linter.unusedVariables false

theorem getL (t : ByteArray) (j : Nat) (h : j < t.size) : t.data.toList[j]'(by simpa using h) = t[j] := by
  obtain ⟨⟨l⟩⟩ := t
  rfl
theorem take_getL (t : ByteArray) (j : Nat) (h : j < t.size) : t.data.toList.take (j + 1) = t.data.toList.take j ++ [t[j]] := by
  rw [List.take_succ_eq_append_getElem (by simpa using h), getL t j h]
theorem lenL (t : ByteArray) : t.data.toList.length = t.size := by
  obtain ⟨⟨l⟩⟩ := t
  rfl
theorem isE (s : ByteArray) : s.toList.isEmpty = decide (s.size = 0) := by
  rw [ByteArray.toList_eq, ← lenL]
  cases s.data.toList <;> simp

set_option maxHeartbeats 4000000 in
theorem snum (s : ByteArray) (w : World) (hs : s.size ≤ 1048576) :
    Calls Tryd.prog 35 #[.string s] w fun e w' => e = .returned (.tuple #[.int .i64 (rdA s), .bool (rdB s)]) ∧ Below w.heap.size w w' := by
  have HE := isE s
  by_cases h0 : s.size = 0
  · have E := Lib.hid (rd_no (s := s) (fun n h1 h2 => by
      have := (rd_look h1 h2).2.1
      have e : s.data.toList = [] := List.eq_nil_of_length_eq_zero (by rw [lenL]; exact h0)
      rw [e] at this
      simp [tlB] at this))
    rw [decide_eq_true h0] at HE
    have g1 : decide ((s.size : Int) < 1) = true := decide_eq_true (by omega)
    have g1' : decide (s.size < 1) = true := decide_eq_true (by omega)
    clear h0
    go_enter Tryd.func35, Tryd.ntmps35
    go_wp2
    go_ret2
    exact ⟨by rw [E.out.1, E.out.2]; rfl, Below.refl _ _⟩
  rw [decide_eq_false h0] at HE
  have hpos : 0 < s.size := by omega
  have hl0 : ∃ r, s.data.toList = s[0] :: r := by
    have e := take_getL s 0 hpos
    have : s.data.toList = s.data.toList.take 1 ++ s.data.toList.drop 1 := (List.take_append_drop 1 _).symm
    rw [e] at this
    exact ⟨s.data.toList.drop 1, by simpa using this⟩
  obtain ⟨r, hr⟩ := hl0
  have hcase : ∃ (neg : Bool) (t : ByteArray), (s[0].toNat == 45) = neg ∧ ((s[0].toNat : Int) == 45) = neg ∧ (neg = true → s.extract 1 s.size = t) ∧ (neg = false → t = s) ∧ tlB s.data.toList = t.data.toList ∧ sgB s.data.toList = neg ∧ (neg = true → t.size + 1 = s.size) := by
    by_cases c : s[0].toNat = 45
    · refine ⟨true, s.extract 1 s.size, by simpa using c, by simp; omega, fun _ => rfl, fun h => by simp at h, ?_, ?_, fun _ => ?_⟩
      · rw [Lib.extract_data, hr]
        show (if s[0].toNat = 45 then r else s[0] :: r) = ((s[0] :: r).drop 1).take (s.size - 1)
        rw [if_pos c, List.drop_one, List.tail_cons, List.take_of_length_le]
        have := congrArg List.length hr
        rw [lenL, List.length_cons] at this
        omega
      · rw [hr]; exact decide_eq_true c
      · rw [ByteArray.size_extract]; omega
    · refine ⟨false, s, by simpa using c, by simp; omega, fun h => by simp at h, fun _ => rfl, ?_, ?_, fun h => by simp at h⟩
      · rw [hr]
        show (if s[0].toNat = 45 then r else s[0] :: r) = s[0] :: r
        rw [if_neg c]
      · rw [hr]; exact decide_eq_false c
  obtain ⟨neg, t, n1, n2, n3, n4, n5, n6, n7⟩ := hcase
  have LK := Lib.hid (fun (n : Int) (h1 : n.natAbs ≤ 999999999999999999) (h2 : dec n = s) => by have := rd_look h1 h2; rw [n5, n6, lenL] at this; exact this)
  have hzs : t.size ≤ s.size := by
    cases neg
    · rw [n4 rfl]; exact Nat.le_refl _
    · have := n7 rfl; omega
  have hng : decide (t.size < s.size) = neg := by
    cases neg
    · rw [n4 rfl]; simp
    · have := n7 rfl; simp; omega
  have hng' : decide ((t.size : Int) < (s.size : Int)) = neg := by
    cases neg
    · rw [n4 rfl]; simp
    · have := n7 rfl; simp; omega
  clear n5 n6 hr r h0
  by_cases hlen : t.size < 1 ∨ 18 < t.size
  · have E := Lib.hid (rd_no (s := s) (fun n h1 h2 => by
      have := LK.out n h1 h2
      omega))
    have hl2 : t.size < 1 ∨ (¬ t.size < 1 ∧ 18 < t.size) := by omega
    cases neg
    · obtain rfl := n4 rfl
      clear n3 n4 n7 hng hng' hlen LK hzs
      rcases hl2 with h | ⟨h, h'⟩
      · exact absurd h (by omega)
      · have g1 : decide ((t.size : Int) < 1) = false := by simp; omega
        have g2 : decide ((18 : Int) < (t.size : Int)) = true := by simp; omega
        have g2' : decide (18 < t.size) = true := by simp; omega
        clear h h'
        go_enter Tryd.func35, Tryd.ntmps35
        go_wp2
        go_ret2
        exact ⟨by rw [E.out.1, E.out.2]; rfl, Below.refl _ _⟩
    · have hx := n3 rfl
      have z1 : (1 : Int) ≤ (s.size : Int) := by omega
      clear n3 n4 n7 hng hng' hlen LK
      rcases hl2 with h | ⟨h, h'⟩
      · have g1 : decide ((t.size : Int) < 1) = true := decide_eq_true (by omega)
        have g1' : decide (t.size < 1) = true := decide_eq_true (by omega)
        clear h
        go_enter Tryd.func35, Tryd.ntmps35
        go_wp2
        go_ret2
        exact ⟨by rw [E.out.1, E.out.2]; rfl, Below.refl _ _⟩
      · have g1 : decide ((t.size : Int) < 1) = false := by simp; omega
        have g2 : decide ((18 : Int) < (t.size : Int)) = true := by simp; omega
        have g2' : decide (18 < t.size) = true := by simp; omega
        clear h h'
        go_enter Tryd.func35, Tryd.ntmps35
        go_wp2
        go_ret2
        exact ⟨by rw [E.out.1, E.out.2]; rfl, Below.refl _ _⟩
  · have l1 : ¬ t.size < 1 := by omega
    have l2 : t.size ≤ 18 := by omega
    have g1 : decide ((t.size : Int) < 1) = false := decide_eq_false (by omega)
    have g1' : decide (t.size < 1) = false := decide_eq_false (by omega)
    have g2 : decide ((18 : Int) < (t.size : Int)) = false := decide_eq_false (by omega)
    have g2' : decide (18 < t.size) = false := decide_eq_false (by omega)
    have VB : Hid (∀ j, j ≤ t.size → (∀ b ∈ t.data.toList.take j, isDg b) → vl 0 (t.data.toList.take j) < 10 ^ j) := fun j hj h => by
      have := vl_bound (t.data.toList.take j) 0 h
      rw [List.length_take, lenL, Nat.min_eq_left hj] at this
      omega
    have TL : Hid (t.data.toList.take t.size = t.data.toList) := by unfold Hid; rw [← lenL t, List.take_length]
    have HSD := Lib.hid (fun (n : Int) (W : World) (h0 : -9223372036854775808 ≤ n) (h1 : n ≤ 9223372036854775807) => sdec n W h0 h1)
    clear hlen hzs l1
    cases neg
    · obtain rfl := n4 rfl
      clear n3 n4 n7
      go_enter Tryd.func35, Tryd.ntmps35
      go_wp2
      go_loop [5, 6] (fun n i => ∃ j x : Nat, j ≤ t.size ∧ i = .int .i64 j ∧ n = .int .i64 (x : Int) ∧ Hid (∀ b ∈ t.data.toList.take j, isDg b) ∧ Hid (x = vl 0 (t.data.toList.take j))) (fun _ i => t.size - (intOf i).toNat)
      case atStart => exact ⟨0, 0, by omega, rfl, rfl, fun b hb => by simp at hb, rfl⟩
      case round =>
        obtain ⟨j, x, hj, rfl, rfl, hA, hX⟩ := hrel
        have xb := VB.out j hj hA.out
        rw [← hX.out] at xb
        by_cases c : j < t.size
        · have TK := take_getL t j c
          have i0 : (0 : Int) ≤ (j : Int) := by omega
          have i1 : (j : Int) < (t.size : Int) := by omega
          have w3 := IntWalk.i64_in ((j : Int) + 1) (by omega)
          have HDG := Lib.hid (fun W => idigit t[j] W)
          by_cases hd : isDg t[j]
          · have xb' : x < 100000000000000000 := by
              have : 10 ^ j ≤ 10 ^ 17 := Nat.pow_le_pow_right (by omega) (by omega)
              omega
            rw [dgB_iff.2 hd] at HDG
            obtain ⟨d1, d2⟩ := id hd
            have e1 := IntWalk.i64_in ((10 : Int) * (x : Int)) (by omega)
            have e2 : IntKind.u8.wrap ((t[j].toNat : Int) - 48) = (t[j].toNat : Int) - 48 := by rw [IntKind.wrap_u8]; omega
            have e3 := IntWalk.i64_in ((t[j].toNat : Int) - 48) (by omega)
            have e4 := IntWalk.i64_in ((10 : Int) * (x : Int) + ((t[j].toNat : Int) - 48)) (by omega)
            have A2 : Hid (∀ b ∈ t.data.toList.take (j + 1), isDg b) := fun b hb => by
              rw [TK] at hb
              rcases List.mem_append.1 hb with hb | hb
              · exact hA.out b hb
              · simp only [List.mem_singleton] at hb; rw [hb]; exact hd
            have X2 : Hid (x * 10 + (t[j].toNat - 48) = vl 0 (t.data.toList.take (j + 1))) := by unfold Hid; rw [TK, vl_snoc, ← hX.out]
            have ve : (10 : Int) * (x : Int) + ((t[j].toNat : Int) - 48) = ((x * 10 + (t[j].toNat - 48) : Nat) : Int) := by omega
            have VE := Lib.hid ve
            clear TK hd ve
            go_wp2_with (go_at_call 49; refine (HDG.out _).mono ?_; rintro e w' ⟨rfl, rfl⟩)
            go_round
            case rel => exact ⟨j + 1, x * 10 + (t[j].toNat - 48), by omega, by go_num, congrArg (Value.int .i64) VE.out, A2, X2⟩
            case measure => simp [intOf]; omega
          · have E := Lib.hid (rd_no (s := t) (fun n h1 h2 => by
              have := (LK.out n h1 h2).1 t[j] (by rw [← getL t j c]; exact List.getElem_mem _)
              exact hd this))
            have hd' : dgB t[j] = false := by cases e : dgB t[j] with | false => rfl | true => exact absurd (dgB_iff.1 e) hd
            rw [hd'] at HDG
            clear TK hd hd'
            go_wp2_with (go_at_call 49; refine (HDG.out _).mono ?_; rintro e w' ⟨rfl, rfl⟩)
            go_ret2
            exact ⟨by rw [E.out.1, E.out.2]; rfl, Below.refl _ _⟩
        · obtain rfl : j = t.size := by omega
          have xv : x = vl 0 t.data.toList := by rw [hX.out, TL.out]
          have xb' : x ≤ 999999999999999999 := by
            have : 10 ^ t.size ≤ 10 ^ 18 := Nat.pow_le_pow_right (by omega) (by omega)
            omega
          have HD := Lib.hid (fun W => HSD.out ((x : Int)) W (by omega) (by omega))
          have wn := IntWalk.i64_in (-(x : Int)) (by omega)
          by_cases he : dec ((x : Int)) = t
          · have E := Lib.hid (rd_yes (s := t) (n := (x : Int)) (by omega) he)
            rw [he] at HD
            have tt : ((t).toList == (t).toList) = true := by simp
            clear he xv hX hA
            go_wp2_with (go_at_call 32; refine (HD.out _).mono ?_; rintro e w' ⟨rfl, b1⟩; have B1 := Lib.hid b1; clear b1)
            go_ret2
            exact ⟨by rw [E.out.1, E.out.2]; rfl, B1.out⟩
          · have E := Lib.hid (rd_no (s := t) (fun n h1 h2 => by
              obtain ⟨k1, k2, k3, k4, k5⟩ := LK.out n h1 h2
              apply he
              rw [← h2]
              congr 1
              rw [xv, k4]
              simp at k5
              omega))
            have hne : ((dec ((x : Int))).toList == (t).toList) = false := by
              simp only [beq_eq_false_iff_ne, ne_eq]
              intro h
              apply he
              apply ByteArray.ext
              rw [ByteArray.toList_eq, ByteArray.toList_eq] at h
              exact Array.toList_inj.1 h
            obtain ⟨dd, hdd⟩ : ∃ dd, dec ((x : Int)) = dd := ⟨_, rfl⟩
            rw [hdd] at hne
            simp only [hdd] at HD
            clear he xv hX hA hdd
            go_wp2_with (go_at_call 32; refine (HD.out _).mono ?_; rintro e w' ⟨rfl, b1⟩; have B1 := Lib.hid b1; clear b1)
            go_ret2
            exact ⟨by rw [E.out.1, E.out.2]; rfl, B1.out⟩
    · have hx := n3 rfl
      have z1 : (1 : Int) ≤ (s.size : Int) := by omega
      clear n3 n4 n7
      go_enter Tryd.func35, Tryd.ntmps35
      go_wp2
      go_loop [5, 6] (fun n i => ∃ j x : Nat, j ≤ t.size ∧ i = .int .i64 j ∧ n = .int .i64 (x : Int) ∧ Hid (∀ b ∈ t.data.toList.take j, isDg b) ∧ Hid (x = vl 0 (t.data.toList.take j))) (fun _ i => t.size - (intOf i).toNat)
      case atStart => exact ⟨0, 0, by omega, rfl, rfl, fun b hb => by simp at hb, rfl⟩
      case round =>
        obtain ⟨j, x, hj, rfl, rfl, hA, hX⟩ := hrel
        have xb := VB.out j hj hA.out
        rw [← hX.out] at xb
        by_cases c : j < t.size
        · have TK := take_getL t j c
          have i0 : (0 : Int) ≤ (j : Int) := by omega
          have i1 : (j : Int) < (t.size : Int) := by omega
          have w3 := IntWalk.i64_in ((j : Int) + 1) (by omega)
          have HDG := Lib.hid (fun W => idigit t[j] W)
          by_cases hd : isDg t[j]
          · have xb' : x < 100000000000000000 := by
              have : 10 ^ j ≤ 10 ^ 17 := Nat.pow_le_pow_right (by omega) (by omega)
              omega
            rw [dgB_iff.2 hd] at HDG
            obtain ⟨d1, d2⟩ := id hd
            have e1 := IntWalk.i64_in ((10 : Int) * (x : Int)) (by omega)
            have e2 : IntKind.u8.wrap ((t[j].toNat : Int) - 48) = (t[j].toNat : Int) - 48 := by rw [IntKind.wrap_u8]; omega
            have e3 := IntWalk.i64_in ((t[j].toNat : Int) - 48) (by omega)
            have e4 := IntWalk.i64_in ((10 : Int) * (x : Int) + ((t[j].toNat : Int) - 48)) (by omega)
            have A2 : Hid (∀ b ∈ t.data.toList.take (j + 1), isDg b) := fun b hb => by
              rw [TK] at hb
              rcases List.mem_append.1 hb with hb | hb
              · exact hA.out b hb
              · simp only [List.mem_singleton] at hb; rw [hb]; exact hd
            have X2 : Hid (x * 10 + (t[j].toNat - 48) = vl 0 (t.data.toList.take (j + 1))) := by unfold Hid; rw [TK, vl_snoc, ← hX.out]
            have ve : (10 : Int) * (x : Int) + ((t[j].toNat : Int) - 48) = ((x * 10 + (t[j].toNat - 48) : Nat) : Int) := by omega
            have VE := Lib.hid ve
            clear TK hd ve
            go_wp2_with (go_at_call 49; refine (HDG.out _).mono ?_; rintro e w' ⟨rfl, rfl⟩)
            go_round
            case rel => exact ⟨j + 1, x * 10 + (t[j].toNat - 48), by omega, by go_num, congrArg (Value.int .i64) VE.out, A2, X2⟩
            case measure => simp [intOf]; omega
          · have E := Lib.hid (rd_no (s := s) (fun n h1 h2 => by
              have := (LK.out n h1 h2).1 t[j] (by rw [← getL t j c]; exact List.getElem_mem _)
              exact hd this))
            have hd' : dgB t[j] = false := by cases e : dgB t[j] with | false => rfl | true => exact absurd (dgB_iff.1 e) hd
            rw [hd'] at HDG
            clear TK hd hd'
            go_wp2_with (go_at_call 49; refine (HDG.out _).mono ?_; rintro e w' ⟨rfl, rfl⟩)
            go_ret2
            exact ⟨by rw [E.out.1, E.out.2]; rfl, Below.refl _ _⟩
        · obtain rfl : j = t.size := by omega
          have xv : x = vl 0 t.data.toList := by rw [hX.out, TL.out]
          have xb' : x ≤ 999999999999999999 := by
            have : 10 ^ t.size ≤ 10 ^ 18 := Nat.pow_le_pow_right (by omega) (by omega)
            omega
          have HD := Lib.hid (fun W => HSD.out (-(x : Int)) W (by omega) (by omega))
          have wn := IntWalk.i64_in (-(x : Int)) (by omega)
          by_cases he : dec (-(x : Int)) = s
          · have E := Lib.hid (rd_yes (s := s) (n := -(x : Int)) (by omega) he)
            rw [he] at HD
            have tt : ((s).toList == (s).toList) = true := by simp
            clear he xv hX hA
            go_wp2_with (go_at_call 32; refine (HD.out _).mono ?_; rintro e w' ⟨rfl, b1⟩; have B1 := Lib.hid b1; clear b1)
            go_ret2
            exact ⟨by rw [E.out.1, E.out.2]; rfl, B1.out⟩
          · have E := Lib.hid (rd_no (s := s) (fun n h1 h2 => by
              obtain ⟨k1, k2, k3, k4, k5⟩ := LK.out n h1 h2
              apply he
              rw [← h2]
              congr 1
              rw [xv, k4]
              simp at k5
              omega))
            have hne : ((dec (-(x : Int))).toList == (s).toList) = false := by
              simp only [beq_eq_false_iff_ne, ne_eq]
              intro h
              apply he
              apply ByteArray.ext
              rw [ByteArray.toList_eq, ByteArray.toList_eq] at h
              exact Array.toList_inj.1 h
            obtain ⟨dd, hdd⟩ : ∃ dd, dec (-(x : Int)) = dd := ⟨_, rfl⟩
            rw [hdd] at hne
            simp only [hdd] at HD
            clear he xv hX hA hdd
            go_wp2_with (go_at_call 32; refine (HD.out _).mono ?_; rintro e w' ⟨rfl, b1⟩; have B1 := Lib.hid b1; clear b1)
            go_ret2
            exact ⟨by rw [E.out.1, E.out.2]; rfl, B1.out⟩
end Go.Proofs.YtijoejejdnhknaaDoor
