/- PowerMod of both packages answers the residue of the power. -/
import Derived.Test.YtninajgnmogmeaaPow
import Derived.Laws.EntriesVeiled
namespace Go.Proofs.Ytninajgnmogmeaa
open Go.RowKit

/-- What PowerMod answers. -/
def PwOk (a e m : Int) : Prop := IsRes a m ∧ 0 ≤ e ∧ e ≤ 1000000
def pwVal (a e m p c : Int) : Prop := (PwOk a e m ∧ p = a ^ e.toNat % m ∧ c = 0) ∨ (¬ PwOk a e m ∧ p = 0 ∧ c = 2)

theorem pwVal_eq {a e m p c p' c' : Int} (h : pwVal a e m p c) (h' : pwVal a e m p' c') : p = p' ∧ c = c' := by
  rcases h with ⟨h, rfl, rfl⟩ | ⟨h, rfl, rfl⟩ <;> rcases h' with ⟨k, rfl, rfl⟩ | ⟨k, rfl, rfl⟩ <;> first | exact ⟨rfl, rfl⟩ | exact absurd h k | exact absurd k h

theorem times (B : Nat) (x y m : Int) (w : World) (h : w.cell? ⟨B, 0, none⟩ = some (.int .i64 m)) (hm : 1 ≤ m) (h0 : 0 ≤ x * y) (h1 : x * y ≤ 1000000) :
    Calls Try.prog 71 #[.int .i64 x, .int .i64 y, .pointer (some ⟨B, 0, none⟩)] w fun e w' => e = .returned (.int .i64 (x * y % m)) ∧ w = w' := by
  have z1 : ¬ m = 0 := by omega
  go_enter Try.func71, Try.ntmps71
  go_wp2
  go_ret
  exact ⟨rfl, rfl⟩

theorem ipow (B C : Nat) (a e m : Int) (w : World) (h : IsRes a m) (e0 : 0 ≤ e) (e1 : e ≤ 1000000)
    (hB : w.cell? ⟨B, 0, none⟩ = some (.int .i64 m)) (hC : w.cell? ⟨C, 0, none⟩ = some (.func (.func 71) #[] #[.pointer (some ⟨B, 0, none⟩)])) :
    Calls Try.prog 72 #[.int .i64 a, .int .i64 e, .pointer (some ⟨B, 0, none⟩), .pointer (some ⟨C, 0, none⟩)] w fun e1 w' => e1 = .returned (.int .i64 (a ^ e.toNat % m)) ∧ w = w' := by
  have hs := Lib.hid (pw_start a e m h e0 e1)
  obtain ⟨h1, h2, h3, h4⟩ := h
  have z1 : ¬ m = 0 := by omega
  go_enter Try.func72, Try.ntmps72
  go_wp2
  go_loop [0, 1, 7] (fun x y z => ∃ a' e' out : Int, x = .int .i64 a' ∧ y = .int .i64 e' ∧ z = .int .i64 out ∧ Hid (PwRel a e m out a' e')) (fun _ y _ => (intOf y).toNat)
  case atStart => exact ⟨a, e, _, rfl, rfl, rfl, hs⟩
  case round =>
    obtain ⟨a', e', out, rfl, rfl, rfl, hr⟩ := hrel
    have o0 := hr.out.1
    have o1 := hr.out.2.1
    have p0 := hr.out.2.2.1
    have p1 := hr.out.2.2.2.1
    have q0 := hr.out.2.2.2.2.1
    have q1 := hr.out.2.2.2.2.2.1
    by_cases he : 0 < e'
    · have ⟨u0, u1⟩ := mul_small out a' m o0 o1 p0 p1 h2
      have ⟨v0, v1⟩ := mul_small a' a' m p0 p1 p0 p1 h2
      by_cases ho : e' % 2 = 1
      · have hn := Lib.hid (pw_odd a e m out a' e' h1 hr.out ho)
        go_wp2_with (go_at_call 71; refine (times B _ _ m _ hB h1 (by assumption) (by assumption)).mono ?_; rintro e w' ⟨rfl, rfl⟩)
        go_round
        case rel => exact ⟨_, _, _, rfl, rfl, rfl, hn⟩
        case measure => simp [intOf]; omega
      · have hn := Lib.hid (pw_even a e m out a' e' h1 hr.out ho)
        go_wp2_with (go_at_call 71; refine (times B _ _ m _ hB h1 (by assumption) (by assumption)).mono ?_; rintro e w' ⟨rfl, rfl⟩)
        go_round
        case rel => exact ⟨_, _, _, rfl, rfl, rfl, hn⟩
        case measure => simp [intOf]; omega
    · have hn := Lib.hid (pw_end a e m out a' e' hr.out he)
      go_wp2
      go_ret
      exact ⟨ret_i _ _ hn.out, rfl⟩

theorem spowerMod (a e m : Int) (w : World) :
    Calls Try.prog 20 #[.int .i64 a, .int .i64 e, .int .i64 m] w fun r w' => ∃ p c : Int, r = .returned (.tuple #[.int .i64 p, .int .i64 c]) ∧ pwVal a e m p c ∧ w = w' := by
  by_cases h : PwOk a e m
  · have V := Lib.hid (show pwVal a e m _ _ from .inl ⟨h, rfl, rfl⟩)
    obtain ⟨hr, e0, e1⟩ := h
    have H := Lib.hid hr
    clear hr
    go_enter Try.func20, Try.ntmps20
    go_wp2_with (first | (go_at_call 52; refine (sres_yes _ _ _ H.out).mono ?_; rintro e w' ⟨rfl, rfl⟩) | (go_at_call 53; refine (in_yes _ _ _ _ e0 e1).mono ?_; rintro e w' ⟨rfl, rfl⟩) | (go_at_call 54; refine (spow _ _ _ _ H.out e0 e1).mono ?_; rintro e w' ⟨rfl, rfl⟩))
    go_ret2
    exact ⟨_, _, rfl, V.out, rfl⟩
  · have V := Lib.hid (show pwVal a e m _ _ from .inr ⟨h, rfl, rfl⟩)
    by_cases hr : IsRes a m
    · have H := Lib.hid hr
      have he := Lib.hid (show e < 0 ∨ 1000000 < e by unfold PwOk at h; by_cases e0 : 0 ≤ e <;> by_cases e1 : e ≤ 1000000 <;> first | omega | exact absurd ⟨hr, e0, e1⟩ h)
      clear hr h
      go_enter Try.func20, Try.ntmps20
      go_wp2_with (first | (go_at_call 52; refine (sres_yes _ _ _ H.out).mono ?_; rintro e w' ⟨rfl, rfl⟩) | (go_at_call 53; refine (in_no _ _ _ _ he.out).mono ?_; rintro e w' ⟨rfl, rfl⟩))
      go_ret2
      exact ⟨_, _, rfl, V.out, rfl⟩
    · have H := Lib.hid hr
      clear hr h
      go_enter Try.func20, Try.ntmps20
      go_wp2_with (go_at_call 52; refine (sres_no _ _ _ H.out).mono ?_; rintro e w' ⟨rfl, rfl⟩)
      go_ret2
      exact ⟨_, _, rfl, V.out, rfl⟩

theorem ipowerMod (a e m : Int) (w : World) :
    Calls Try.prog 21 #[.int .i64 a, .int .i64 e, .int .i64 m] w fun r w' => ∃ p c : Int, r = .returned (.tuple #[.int .i64 p, .int .i64 c]) ∧ pwVal a e m p c ∧ Below w.heap.size w w' := by
  have hmf : ∀ (fn : Fn) (first cap : Array Value) (w : World), (Instr.makeFunc fn first cap).run Try.prog w = .ok (.func fn first cap) w := fun _ _ _ _ => rfl
  by_cases h : PwOk a e m
  · have V := Lib.hid (show pwVal a e m _ _ from .inl ⟨h, rfl, rfl⟩)
    obtain ⟨hr, e0, e1⟩ := h
    have H := Lib.hid hr
    clear hr
    go_enter Try.func21, Try.ntmps21
    go_wp2_with (first | (go_at_call 55; refine (ires_yes _ _ _ H.out).mono ?_; rintro e w' ⟨rfl, rfl⟩) | (go_at_call 56; go_in))
    refine (ipow _ _ a e m _ H.out e0 e1 ?c1 ?c2).mono ?_
    case c1 => simp
    case c2 => simp
    rintro r w' ⟨rfl, rfl⟩
    go_wp2
    go_ret2
    refine ⟨_, _, rfl, V.out, ?_⟩
    exact (((Below.refl _ _).alloc (Nat.le_refl _) _).alloc (by simp) _)
  · have V := Lib.hid (show pwVal a e m _ _ from .inr ⟨h, rfl, rfl⟩)
    by_cases hr : IsRes a m
    · have H := Lib.hid hr
      have he : e < 0 ∨ 1000000 < e := by unfold PwOk at h; by_cases e0 : 0 ≤ e <;> by_cases e1 : e ≤ 1000000 <;> first | omega | exact absurd ⟨hr, e0, e1⟩ h
      clear hr h
      by_cases h0 : e < 0
      · clear he
        go_enter Try.func21, Try.ntmps21
        go_wp2_with (go_at_call 55; refine (ires_yes _ _ _ H.out).mono ?_; rintro e w' ⟨rfl, rfl⟩)
        go_ret2
        exact ⟨_, _, rfl, V.out, Below.refl _ _⟩
      · have h1 : 1000000 < e := by omega
        clear he
        go_enter Try.func21, Try.ntmps21
        go_wp2_with (go_at_call 55; refine (ires_yes _ _ _ H.out).mono ?_; rintro e w' ⟨rfl, rfl⟩)
        go_ret2
        exact ⟨_, _, rfl, V.out, Below.refl _ _⟩
    · have H := Lib.hid hr
      clear hr h
      go_enter Try.func21, Try.ntmps21
      go_wp2_with (go_at_call 55; refine (ires_no _ _ _ H.out).mono ?_; rintro e w' ⟨rfl, rfl⟩)
      go_ret2
      exact ⟨_, _, rfl, V.out, Below.refl _ _⟩

theorem law_FnExactPowerMod (a e m : Int) (w : World) (_ : (Lit.int .i64 a).wf = true) (_ : (Lit.int .i64 e).wf = true) (_ : (Lit.int .i64 m).wf = true) :
    Calls Try.prog 4 #[.int .i64 a, .int .i64 e, .int .i64 m] w fun r w' => r = .returned (.bool true) ∧ Below w.heap.size w w' := by
  go_enter Try.func4, Try.ntmps4
  go_wp2_with (go_at_call 20; refine (spowerMod a e m _).mono ?_; rintro r w' ⟨p, c, rfl, hv, rfl⟩; have HV := Lib.hid hv; clear hv)
  refine (ipowerMod a e m _).mono ?_
  rintro r w' ⟨p', c', rfl, hv', hb⟩
  obtain ⟨rfl, rfl⟩ := pwVal_eq HV.out hv'
  clear HV hv'
  have HB := Lib.hid hb
  clear hb
  go_wp2
  go_ret
  exact ⟨rfl, HB.out⟩
end Go.Proofs.Ytninajgnmogmeaa
