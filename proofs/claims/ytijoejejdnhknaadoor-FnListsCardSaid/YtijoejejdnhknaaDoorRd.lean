/- ReadDecimal, by both packages, and its law. -/
import Derived.Test.YtijoejejdnhknaaDoorRdm
import Derived.Test.YtijoejejdnhknaaDoorPowt
namespace Go.Proofs.YtijoejejdnhknaaDoor
open Go.RowKit Go.ChangeShapes Go.WideShapes
set_option linter.unusedVariables false

/-- The variables of errors hold errors. -/
def ErrVars (w : World) : Prop := (∃ u v, w.cell? ⟨1, 0, none⟩ = some (.iface u v)) ∧ (∃ u v, w.cell? ⟨2, 0, none⟩ = some (.iface u v))
/-- What is laid, as far as it is read. -/
def Laid5 (w : World) : Prop := PowTab w ∧ ErrVars w
theorem Laid5.pos {w : World} (h : Laid5 w) : 3 < w.heap.size ∧ 1 < w.heap.size ∧ 2 < w.heap.size := by
  obtain ⟨a, ⟨_, _, b⟩, ⟨_, _, c⟩⟩ := h
  exact ⟨a.pos, World.block_lt_of_cell? w _ b, World.block_lt_of_cell? w _ c⟩
theorem Laid5.below {w0 w w' : World} (h : Laid5 w) (hb : Below w0.heap.size w w') (h0 : 3 < w0.heap.size ∧ 1 < w0.heap.size ∧ 2 < w0.heap.size) : Laid5 w' := by
  obtain ⟨a, ⟨u, v, b⟩, ⟨x, y, c⟩⟩ := h
  exact ⟨a.below hb h0.1, ⟨u, v, by rw [hb.cell (p := ⟨1, 0, none⟩) h0.2.1]; exact b⟩, ⟨x, y, by rw [hb.cell (p := ⟨2, 0, none⟩) h0.2.2]; exact c⟩⟩

def dgB (b : UInt8) : Bool := decide (48 ≤ b.toNat) && decide (b.toNat ≤ 57)
theorem dgB_iff {b : UInt8} : dgB b = true ↔ isDg b := by unfold dgB isDg; rw [Bool.and_eq_true, decide_eq_true_eq, decide_eq_true_eq]
theorem idigit (c : UInt8) (w : World) :
    Calls Tryd.prog 49 #[.int .u8 (c.toNat : Int)] w fun e w' => e = .returned (.bool (dgB c)) ∧ w = w' := by
  by_cases h1 : 48 ≤ c.toNat
  · have g1 : decide ((48 : Int) ≤ (c.toNat : Int)) = true := by simp; omega
    have g1' : decide (48 ≤ c.toNat) = true := by simpa using h1
    by_cases h2 : c.toNat ≤ 57
    · have g2 : decide ((c.toNat : Int) ≤ 57) = true := by simp; omega
      have g2' : decide (c.toNat ≤ 57) = true := by simpa using h2
      have V := Lib.hid (show dgB c = true from dgB_iff.2 ⟨h1, h2⟩)
      clear h1 h2
      go_enter Tryd.func49, Tryd.ntmps49
      go_wp2
      go_ret
      exact ⟨by rw [V.out]; rfl, rfl⟩
    · have g2 : decide ((c.toNat : Int) ≤ 57) = false := by simp; omega
      have g2' : decide (c.toNat ≤ 57) = false := by simpa using h2
      have V := Lib.hid (show dgB c = false by cases e : dgB c with | false => rfl | true => exact absurd (dgB_iff.1 e).2 h2)
      clear h1 h2
      go_enter Tryd.func49, Tryd.ntmps49
      go_wp2
      go_ret
      exact ⟨by rw [V.out]; rfl, rfl⟩
  · have g1 : decide ((48 : Int) ≤ (c.toNat : Int)) = false := by simp; omega
    have g1' : decide (48 ≤ c.toNat) = false := by simpa using h1
    have V := Lib.hid (show dgB c = false by cases e : dgB c with | false => rfl | true => exact absurd (dgB_iff.1 e).1 h1)
    clear h1
    go_enter Tryd.func49, Tryd.ntmps49
    go_wp2
    go_ret
    exact ⟨by rw [V.out]; rfl, rfl⟩

/-- What is said of a text's reading, by cases. -/
theorem iread (s : ByteArray) (w : World) (hs : s.size ≤ 1048576) (ht : Laid5 w) :
    Calls Tryd.prog 14 #[.string s] w fun e w' => e = .returned (.tuple #[.int .i64 (rdA s), .bool (rdB s)]) ∧ Below w.heap.size w w' := by
  obtain ⟨hp, ⟨u1, v1, c1⟩, ⟨u2, v2, c2⟩⟩ := id ht
  have T := Lib.hid ht
  have bad : (∀ n : Int, n.natAbs ≤ 999999999999999999 → Lib.parseIntB 64 s.data.toList ≠ .ok n) → rdA s = 0 ∧ rdB s = false := fun h => rd_no fun n h1 h2 => h n h1 (by rw [← h2, dec_list]; exact parse_itoa h1)
  cases hpi : Lib.parseIntB 64 s.data.toList with
  | ok v =>
    have HP := Lib.hid (Go.Proofs.Tryd.strconv_ParseInt_10_at64_ok s (by omega) v hpi w)
    by_cases hb : v.natAbs ≤ 999999999999999999
    · have HD := Lib.hid (fun W ht => idec v W (by omega) (by omega) ht)
      have b1 : decide (v < -999999999999999999) = false := by simp; omega
      have b2 : decide ((999999999999999999 : Int) < v) = false := by simp; omega
      have b0 : -9223372036854775808 ≤ v ∧ v ≤ 9223372036854775807 := by omega
      by_cases he : dec v = s
      · have E := Lib.hid (rd_yes hb he)
        have t : (s.toList == s.toList) = true := by simp
        rw [he] at HD
        clear he hpi bad hb
        go_enter Tryd.func14, Tryd.ntmps14
        go_wp2_with fail
        refine HP.out.mono ?_
        rintro e w1 ⟨rfl, hw⟩
        have B1 : Hid (Below w.heap.size w w1) := by
          rcases hw with rfl | ⟨t, rfl⟩
          · exact Below.refl _ _
          · exact Lib.bytesWorld_below _ _ _
        clear hw
        go_wp2_with fail
        refine (HD.out _ (T.out.1.below B1.out T.out.1.pos)).mono ?_
        rintro e w2 ⟨rfl, b2⟩
        have B2 := Lib.hid (B1.out.trans (b2.mono B1.out.size))
        clear b2
        go_wp2
        go_ret2
        exact ⟨by rw [E.out.1, E.out.2]; rfl, B2.out⟩
      · have E := Lib.hid (rd_no (s := s) (fun n h1 h2 => by
          have := parse_itoa h1
          rw [← dec_list, h2, hpi] at this
          simp only [Lib.NumEnd.ok.injEq] at this
          subst this
          exact he h2))
        have hne : ((dec v).toList == s.toList) = false := by
          simp only [beq_eq_false_iff_ne, ne_eq]
          intro h
          apply he
          apply ByteArray.ext
          rw [ByteArray.toList_eq, ByteArray.toList_eq] at h
          exact Array.toList_inj.1 h
        obtain ⟨d, hd⟩ : ∃ d, dec v = d := ⟨_, rfl⟩
        rw [hd] at hne
        simp only [hd] at HD
        clear he hpi bad hb hd
        go_enter Tryd.func14, Tryd.ntmps14
        go_wp2_with fail
        refine HP.out.mono ?_
        rintro e w1 ⟨rfl, hw⟩
        have B1 : Hid (Below w.heap.size w w1) := by
          rcases hw with rfl | ⟨t, rfl⟩
          · exact Below.refl _ _
          · exact Lib.bytesWorld_below _ _ _
        clear hw
        go_wp2_with fail
        refine (HD.out _ (T.out.1.below B1.out T.out.1.pos)).mono ?_
        rintro e w2 ⟨rfl, b2⟩
        have B2 := Lib.hid (B1.out.trans (b2.mono B1.out.size))
        clear b2
        go_wp2
        go_ret2
        exact ⟨by rw [E.out.1, E.out.2]; rfl, B2.out⟩
    · have E := Lib.hid (bad (fun n h1 h2 => by
        rw [hpi] at h2
        simp only [Lib.NumEnd.ok.injEq] at h2
        subst h2
        exact hb h1))
      have hv : v < -999999999999999999 ∨ (¬ v < -999999999999999999 ∧ (999999999999999999 : Int) < v) := by omega
      clear hpi bad hb
      rcases hv with h | ⟨h, h'⟩
      all_goals
        go_enter Tryd.func14, Tryd.ntmps14
        go_wp2_with fail
        refine HP.out.mono ?_
        rintro e w1 ⟨rfl, hw⟩
        have B1 : Hid (Below w.heap.size w w1) := by
          rcases hw with rfl | ⟨t, rfl⟩
          · exact Below.refl _ _
          · exact Lib.bytesWorld_below _ _ _
        clear hw
        go_wp2
        go_ret2
        exact ⟨by rw [E.out.1, E.out.2]; rfl, B1.out⟩
  | _ =>
    have E := Lib.hid (bad (fun n _ h2 => by rw [hpi] at h2; cases h2))
    have HP : Hid (Calls Tryd.prog 33 #[.string s, .int .i64 10, .int .i64 64] w fun e w' => ∃ (x : Int) (N : Nat), e = .returned (.tuple #[.int .i64 x, .iface 77 (.pointer (some ⟨N, 0, none⟩))]) ∧ Below w.heap.size w w') := by
      first
        | exact (Any.strconv_ParseInt_10_at64_syntax Go.Proofs.Tryd.laysC174 s (by omega) hpi _ w c1 (.inr ⟨_, _, rfl⟩)).mono fun e w' ⟨N, h1, _, _, h4⟩ => ⟨_, N, h1, h4⟩
        | exact (Any.strconv_ParseInt_10_at64_range Go.Proofs.Tryd.laysC174 s (by omega) hpi _ w c2 (.inr ⟨_, _, rfl⟩)).mono fun e w' ⟨N, h1, _, _, h4⟩ => ⟨_, N, h1, h4⟩
    clear hpi bad
    go_enter Tryd.func14, Tryd.ntmps14
    go_wp2_with fail
    refine HP.out.mono ?_
    rintro e w1 ⟨x, N, rfl, b1⟩
    have B1 := Lib.hid b1
    clear b1
    go_wp2
    go_ret2
    exact ⟨by rw [E.out.1, E.out.2]; rfl, B1.out⟩
end Go.Proofs.YtijoejejdnhknaaDoor
