/- Irreducible polynomials, by the program. -/
import Derived.Test.YtmlcdbjibngnkaaFe
namespace Go.Proofs.Ytmlcdbjibngnkaa
open Go.RowKit
set_option linter.unusedVariables false

/-- The remainder by the n-th polynomial of the degree d, as a number. -/
def rval (p deg : Nat) (f : Co) (d n : Nat) : Int := num p (red p (wt p n d) d (deg + 1 - d) f) d 0
def irrB (p deg : Nat) (f : Co) : Bool := (List.range (deg / 2)).all fun e => (List.range (p ^ (e + 1))).all fun n => rval p deg f (e + 1) n != 0
theorem irrB_iff (p deg : Nat) (f : Co) : irrB p deg f = true ↔ ∀ d, 1 ≤ d → d ≤ deg / 2 → ∀ n, n < p ^ d → rval p deg f d n ≠ 0 := by
  unfold irrB
  simp only [List.all_eq_true, List.mem_range, bne_iff_ne, ne_eq]
  constructor
  · intro h d h1 h2 n hn
    have := h (d - 1) (by omega) n (by rw [show d - 1 + 1 = d by omega]; exact hn)
    rwa [show d - 1 + 1 = d by omega] at this
  · intro h e he n hn
    exact h (e + 1) (by omega) (by omega) n hn
theorem wt_bd (p n d : Nat) (hp : 2 ≤ p) (i : Nat) : 0 ≤ wt p n d i ∧ wt p n d i < p := by
  unfold wt
  split
  · omega
  · have := dg_rd p n (n + 1) (by omega) (Nat.lt_of_lt_of_le (Nat.lt_pow_self (show 1 < p by omega)) (Nat.pow_le_pow_right (by omega) (Nat.le_succ n))) i
    exact ⟨this.1, this.2.1⟩
theorem wt_top (p n d : Nat) : wt p n d d = 1 := by unfold wt; rw [if_pos rfl]

/-- The remainder is zero exactly if its number is. -/
theorem rest_zero (p deg d n : Nat) (f : Co) (hp : 2 ≤ p) (hd : d ≤ deg) (hdeg : deg ≤ 11) (hf : Rd p (deg + 1) f) :
    (rval p deg f d n = 0 ↔ ∀ i, red p (wt p n d) d (12 - d) f i = 0) ∧ Rd p d (red p (wt p n d) d (12 - d) f) := by
  have e : red p (wt p n d) d (12 - d) f = red p (wt p n d) d (deg + 1 - d) f := by
    have := red_cut (p := p) (b := wt p n d) (deg := d) (11 - deg) (deg + 1 - d) f (by rw [show d + (deg + 1 - d) = deg + 1 by omega]; exact hf)
    rwa [show deg + 1 - d + (11 - deg) = 12 - d by omega] at this
  have hr : Rd p d (red p (wt p n d) d (deg + 1 - d) f) := red_rd (by omega) (wt_top p n d) _ _ (by rw [show d + (deg + 1 - d) = deg + 1 by omega]; exact hf)
  rw [e]
  refine ⟨⟨fun h i => ?_, fun h => ?_⟩, hr⟩
  · by_cases hi : i < d
    · exact num_eq0 p _ (by omega) (fun j => (hr j).1) d 0 h i (by omega) (by omega)
    · exact (hr i).2.2 (by omega)
  · exact num_zero _ _ _ _ (fun j _ => h j)

theorem At.range {w : World} {g : Nat} {c : Co} (h : At w g c) : w.rangeAt g 0 ((vec 12 c).map (Value.int .i64)) := by
  intro j v hv
  rw [Nat.zero_add, cell_of_row w g j _ _ _ h]
  simpa [arr] using hv
theorem held_mk {w0 w' : World} {g : Nat} {f : Co} (h : Hid (At w' g f ∧ Below w0.heap.size w0 w')) : w'.rangeAt g 0 ((vec 12 f).map (Value.int .i64)) ∧ Hid (At w' g f ∧ Below w0.heap.size w0 w') := ⟨h.out.1.range, h⟩
theorem Try.guardPoly : Try.prog.eqGuardType Try.prog.depth 55 = false := by kernel_rfl
theorem eq_rest (p deg d n : Nat) (f : Co) (hp : 2 ≤ p) (hd : d ≤ deg) (hdeg : deg ≤ 6) (hf : Rd p (deg + 1) f) (W : World) :
    (Op.equalIn 10000 55 (.agg (arr 12 (red p (wt p n d) d (12 - d) f))) (.agg #[.int .i64 0, .int .i64 0, .int .i64 0, .int .i64 0, .int .i64 0, .int .i64 0, .int .i64 0, .int .i64 0, .int .i64 0, .int .i64 0, .int .i64 0, .int .i64 0])).run Try.prog W = .ok (rval p deg f d n == 0) W := by
  refine (Try.eqPoly _ W).trans ?_
  obtain ⟨h, hr⟩ := rest_zero p deg d n f hp hd (by omega) hf
  congr 1
  rw [Bool.eq_iff_iff]
  simp only [List.all_eq_true, List.mem_range, beq_iff_eq]
  rw [h]
  exact ⟨fun k i => if hi : i < 12 then k i hi else (hr i).2.2 (by omega), fun k i _ => k i⟩
theorem held_next {w0 w' w4 : World} {g : Nat} {f : Co} (h : Hid (At w' g f ∧ Below w0.heap.size w0 w')) (hb : Below w'.heap.size w' w4) : Hid (At w4 g f ∧ Below w0.heap.size w0 w4) :=
  ⟨h.out.1.below hb h.out.1.lt, h.out.2.trans (hb.mono h.out.2.size)⟩

set_option maxHeartbeats 1000000 in
/-- Whether a polynomial has no divisor. -/
theorem irr_any (p deg : Nat) (f : Co) (w : World) (hp : 2 ≤ p) (hp' : p ≤ 64) (h1 : 1 ≤ deg) (h6 : deg ≤ 6) (hf : Rd p (deg + 1) f) (hq : p ^ deg ≤ 64) :
    Calls Try.prog 92 #[.agg (arr 12 f), .int .i64 deg, .int .i64 p] w fun e w' => e = .returned (.bool (irrB p deg f)) ∧ Below w.heap.size w w' := by
  have A0 : Hid (At (w.alloc (.cells (arr 12 f) 55)) w.heap.size f) := At.new w f
  have B0 : Hid (Below w.heap.size w (w.alloc (.cells (arr 12 f) 55))) := (Below.refl _ _).alloc (Nat.le_refl _) _
  have HP : Hid (∀ d, d ≤ deg → p ^ d ≤ 64) := fun d hd => Nat.le_trans (Nat.pow_le_pow_right (by omega) hd) hq
  have HI := Lib.hid (irrB_iff p deg f)
  have HF := Lib.hid hf
  have HW := Lib.hid (fun (n d : Nat) (W : World) (h : n < 64) (h' : d < 12) => withTop_any n d p W hp hp' h h')
  have HR := Lib.hid (fun (n d : Nat) (W : World) (h : d ≤ 6) => polyRest p d f (wt p n d) W hp hp' h (hf.mono (by omega)) (wt_bd p n d hp))
  have ed : (deg : Int) / 2 = ((deg / 2 : Nat) : Int) := by omega
  obtain ⟨hlf, hh⟩ : ∃ h, deg / 2 = h := ⟨_, rfl⟩
  rw [hh] at ed
  have HH := Lib.hid hh
  have hh2 : hlf ≤ 3 := by omega
  clear hf hq hh
  go_enter Try.func92, Try.ntmps92
  go_wp2
  go_loopw [7, 8] (fun s i wr => ∃ d : Nat, 1 ≤ d ∧ d ≤ hlf + 1 ∧ s = .int .i64 ((p ^ (d - 1) : Nat) : Int) ∧ i = .int .i64 d ∧ Hid (∀ e, 1 ≤ e → e < d → ∀ n, n < p ^ e → rval p deg f e n ≠ 0) ∧ Hid (At wr w.heap.size f) ∧ Hid (Below w.heap.size w wr)) (fun _ i _ => hlf + 1 - (intOf i).toNat)
  case atStart => exact ⟨1, by omega, by omega, by simp, rfl, fun e e1 e2 => by omega, A0, B0⟩
  case round =>
    obtain ⟨d, d1, d2, rfl, rfl, hn, a0, hB⟩ := hrel
    by_cases hlt : d ≤ hlf
    · have g1 : (d : Int) ≤ (hlf : Int) := by omega
      obtain ⟨s, hs⟩ : ∃ s, p ^ (d - 1) = s := ⟨_, rfl⟩
      obtain ⟨q, hq⟩ : ∃ q, p ^ d = q := ⟨_, rfl⟩
      have hq64 := HP.out d (by have := HH.out; omega)
      have hs64 := HP.out (d - 1) (by have := HH.out; omega)
      rw [hq] at hq64
      rw [hs] at hs64 ⊢
      have eq : (s : Int) * (p : Int) = (q : Int) := by
        rw [← hs, ← hq, show d = d - 1 + 1 by omega, Nat.pow_succ]; simp
      have HQ := Lib.hid hq
      clear hq hs
      obtain ⟨wq, rfl⟩ : ∃ wq : World, wq = wr := ⟨_, rfl⟩
      go_wp2
      go_loopw [20] (fun i wr => ∃ n : Nat, n ≤ q ∧ i = .int .i64 n ∧ Hid (∀ m, m < n → rval p deg f d m ≠ 0) ∧ Hid (At wr w.heap.size f) ∧ Hid (Below w.heap.size w wr)) (fun i _ => q - (intOf i).toNat)
      case atStart => exact ⟨0, by omega, rfl, fun m h => by omega, a0, hB⟩
      case round =>
        obtain ⟨n, hnq, rfl, hm, b0, hB2⟩ := hrel
        by_cases hln : n < q
        · have n1 : (n : Int) < (q : Int) := by omega
          have n0 : (0 : Int) ≤ (n : Int) := by omega
          have sz : w.heap.size < wr.heap.size := b0.out.lt
          have hS0 : Hid (At wr.drew w.heap.size f ∧ Below wr.heap.size wr wr.drew) := ⟨b0.out.drew, (Below.refl _ _).drew⟩
          have hn64 : n < 64 := by omega
          have hd12 : d < 12 := by omega
          have hd6 : d ≤ 6 := by omega
          obtain ⟨V, hV⟩ : ∃ V, (rval p deg f d n == 0) = V := ⟨_, rfl⟩
          have hEq := fun W : World => eq_rest p deg d n f hp (by have := HH.out; omega) h6 HF.out W
          rw [hV] at hEq
          have HV := Lib.hid hV
          have hgu := Try.guardPoly
          have hu := Try.underlying55
          have hi : (Try.prog.info? 55).map (·.size) = some ((vec 12 f).map (Value.int .i64)).length := by simpa using Try.infoPoly
          clear hV
          go_wp2
          go_region_held3 (fun w' => w'.rangeAt w.heap.size 0 ((vec 12 f).map (Value.int .i64)) ∧ Hid (At w' w.heap.size f ∧ Below wr.heap.size wr w')) (first | exact held_mk (by assumption))
            (first | (go_at_call 106; refine (HW.out n d _ hn64 hd12).mono ?_; rintro e w4 ⟨rfl, hb4⟩; have hS4 := held_next (by assumption) hb4) | (go_at_call 95; refine (HR.out n d _ hd6).mono ?_; rintro e w4 ⟨rfl, hb4⟩; have hS4 := held_next (by assumption) hb4))
          have P0 : Hid (At w4 w.heap.size f) := hS4.out.1
          have PB : Hid (Below w.heap.size w w4) := hB2.out.trans (hS4.out.2.mono hB2.out.size)
          cases V
          · have M1 : Hid (∀ m, m < n + 1 → rval p deg f d m ≠ 0) := by
              intro m hmn
              by_cases e : m = n
              · subst e; have := HV.out; simpa using this
              · exact hm.out m (by omega)
            go_wp2
            go_roundw
            case rel => exact ⟨n + 1, by omega, by go_num, M1, P0, PB⟩
            case measure => simp [intOf]; omega
          · have E := Lib.hid (show irrB p deg f = false by
              cases hb : irrB p deg f
              · rfl
              · exact absurd (by have := HV.out; simpa using this) (HI.out.1 hb d d1 (by rw [HH.out]; exact hlt) n (by rw [HQ.out]; exact hln)))
            go_wp2
            go_ret
            exact ⟨ret_b _ _ E.out.symm, PB.out⟩
        · obtain rfl : n = q := by omega
          have N1 : Hid (∀ e, 1 ≤ e → e < d + 1 → ∀ m, m < p ^ e → rval p deg f e m ≠ 0) := by
            intro e e1 e2 m hmn
            by_cases h : e = d
            · subst h; exact hm.out m (by rw [← HQ.out]; exact hmn)
            · exact hn.out e e1 (by omega) m hmn
          go_wp2
          go_roundw
          case rel => exact ⟨d + 1, by omega, by omega, by rw [Nat.add_sub_cancel, HQ.out], by go_num, N1, b0, hB2⟩
          case measure => simp only [intOf]; omega
    · obtain rfl : d = hlf + 1 := by omega
      have E := Lib.hid (show irrB p deg f = true from HI.out.2 fun e e1 e2 m hmn => hn.out e e1 (by have := HH.out; omega) m hmn)
      have g2 : ¬ ((hlf + 1 : Nat) : Int) ≤ (hlf : Int) := by omega
      go_wp2
      go_ret
      exact ⟨ret_b _ _ E.out.symm, hB.out⟩
end Go.Proofs.Ytmlcdbjibngnkaa
