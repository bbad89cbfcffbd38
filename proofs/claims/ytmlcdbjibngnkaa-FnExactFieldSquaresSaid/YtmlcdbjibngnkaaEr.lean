/- Powers, orders, inverses and the primitive element, by the model. -/
import Derived.Test.YtmlcdbjibngnkaaEa
import Derived.Test.YtmlcdbjibngnkaaTh
namespace Go.Proofs.Ytmlcdbjibngnkaa
open Go.RowKit
set_option linter.unusedVariables false

section
variable {p k : Nat} {f : Co}
/-- The order of an element. -/
def IsO (p k : Nat) (f : Co) (a n : Nat) : Prop := 1 ≤ n ∧ pw p k f a n = 1 ∧ ∀ m, 1 ≤ m → m < n → pw p k f a m ≠ 1
theorem least_of (P : Nat → Prop) : ∀ n, P n → ∃ m, m ≤ n ∧ P m ∧ ∀ i, i < m → ¬ P i := by
  intro n
  induction n using Nat.strongRecOn with
  | _ n ih =>
    intro hn
    by_cases h : ∃ i, i < n ∧ P i
    · obtain ⟨i, hi, hp⟩ := h
      obtain ⟨m, h1, h2, h3⟩ := ih i hi hp
      exact ⟨m, by omega, h2, h3⟩
    · exact ⟨n, Nat.le_refl _, hn, fun i hi hp => h ⟨i, hi, hp⟩⟩
theorem ord_ex {g : Nat} (h : Fp p k f) (r : Rt p k f g) (a : Nat) (h1 : 1 ≤ a) (h2 : a < p ^ k) : ∃ n, IsO p k f a n ∧ n ≤ p ^ k - 1 := by
  have hq := q_big h
  obtain ⟨m, e1, e2, e3⟩ := least_of (fun n => 1 ≤ n ∧ pw p k f a n = 1) (p ^ k - 1) ⟨by omega, r.fermat h a h1 h2⟩
  exact ⟨m, ⟨e2.1, e2.2, fun i hi hm e => e3 i hm ⟨hi, e⟩⟩, e1⟩
theorem IsO.uniq {a n m : Nat} (h1 : IsO p k f a n) (h2 : IsO p k f a m) : n = m := by
  rcases Nat.lt_trichotomy n m with c | c | c
  · exact absurd h1.2.1 (h2.2.2 n h1.1 c)
  · exact c
  · exact absurd h2.2.1 (h1.2.2 m h2.1 c)
noncomputable def ordF (p k : Nat) (f : Co) (a : Nat) : Nat := @dite _ (∃ n, IsO p k f a n ∧ n ≤ p ^ k - 1) (Classical.propDecidable _) (fun h => Classical.choose h) (fun _ => 0)
theorem ordF_is {a : Nat} (h : ∃ n, IsO p k f a n ∧ n ≤ p ^ k - 1) : IsO p k f a (ordF p k f a) ∧ ordF p k f a ≤ p ^ k - 1 := by
  unfold ordF
  rw [dif_pos h]
  exact Classical.choose_spec h
theorem Rt.ord {g : Nat} (h : Fp p k f) (r : Rt p k f g) : ordF p k f g = p ^ k - 1 := by
  have hq := q_big h
  have e := ordF_is (ord_ex h r g r.g1 r.g2)
  by_cases c : ordF p k f g = p ^ k - 1
  · exact c
  · exact absurd (r.inj h (ordF p k f g) 0 (by omega) (by omega) (by rw [e.1.2.1]; rfl)) (by have := e.1.1; omega)
/-- The least primitive element. -/
def IsP (p k : Nat) (f : Co) (a : Nat) : Prop := 1 ≤ a ∧ a < p ^ k ∧ ordF p k f a = p ^ k - 1 ∧ ∀ b, 1 ≤ b → b < a → ordF p k f b ≠ p ^ k - 1
theorem prim_ex {g : Nat} (h : Fp p k f) (r : Rt p k f g) : ∃ a, IsP p k f a := by
  have h1 := r.g1
  obtain ⟨m, e1, e2, e3⟩ := least_of (fun n => 1 ≤ n ∧ ordF p k f n = p ^ k - 1) g ⟨r.g1, r.ord h⟩
  exact ⟨m, e2.1, by have := r.g2; omega, e2.2, fun b hb hm e => e3 b hm ⟨hb, e⟩⟩
theorem IsP.uniq {a b : Nat} (h1 : IsP p k f a) (h2 : IsP p k f b) : a = b := by
  rcases Nat.lt_trichotomy a b with c | c | c
  · exact absurd h1.2.2.1 (h2.2.2.2 a h1.1 c)
  · exact c
  · exact absurd h2.2.2.1 (h1.2.2.2 b h2.1 c)
noncomputable def primF (p k : Nat) (f : Co) : Nat := @dite _ (∃ a, IsP p k f a) (Classical.propDecidable _) (fun h => Classical.choose h) (fun _ => 0)
theorem primF_is (h : ∃ a, IsP p k f a) : IsP p k f (primF p k f) := by
  unfold primF
  rw [dif_pos h]
  exact Classical.choose_spec h
/-- The inverse. -/
def invF (p k : Nat) (f : Co) (a : Nat) : Nat := pw p k f a (p ^ k - 2)
theorem inv_one {g : Nat} (h : Fp p k f) (r : Rt p k f g) (a : Nat) (h1 : 1 ≤ a) (h2 : a < p ^ k) : fm p k f a (invF p k f a) = 1 := by
  have hq := q_big h
  by_cases c : p ^ k = 2
  · unfold invF
    rw [c, show 2 - 2 = 0 from rfl, show pw p k f a 0 = 1 from rfl, fm_one' h a h2]
    omega
  · have e := pw_add h a h2 1 (p ^ k - 2)
    rw [pw_one h a h2, show 1 + (p ^ k - 2) = p ^ k - 1 by omega, r.fermat h a h1 h2] at e
    exact e.symm
theorem inv_uniq {g : Nat} (h : Fp p k f) (r : Rt p k f g) (a b : Nat) (h1 : 1 ≤ a) (h2 : a < p ^ k) (hb : b < p ^ k) (e : fm p k f a b = 1) : b = invF p k f a := by
  have l := pw_lt h a (p ^ k - 2)
  have e1 := fm_assoc h (invF p k f a) a b l h2 hb
  rw [e, fm_comm h (invF p k f a) a l h2, inv_one h r a h1 h2, fm_one h b hb] at e1
  rw [e1]; exact fm_one' h _ l
theorem pw_half (h : Fp p k f) (b m : Nat) (hb : b < p ^ k) (hm : m % 2 = 0) : pw p k f b m = pw p k f (fm p k f b b) (m / 2) := by
  have e : pw p k f b 2 = fm p k f b b := by rw [pw, pw_one h b hb]
  rw [← e, ← pw_mul h b hb, show 2 * (m / 2) = m by omega]
theorem pw_half' (h : Fp p k f) (b m : Nat) (hb : b < p ^ k) (hm : m % 2 = 1) : pw p k f b m = fm p k f b (pw p k f (fm p k f b b) (m / 2)) := by
  have e : pw p k f b 2 = fm p k f b b := by rw [pw, pw_one h b hb]
  have e2 := pw_add h b hb 1 (2 * (m / 2))
  rw [pw_one h b hb, show 1 + 2 * (m / 2) = m by omega] at e2
  rw [e2, ← e, ← pw_mul h b hb]
end

theorem smulN (p k a b : Nat) (xs : List Int) (v : Value) (g : Nat) (w : World) (hf : Fd w g p k v) (hv : IntsAt w v xs) (h : FOk p k xs) (ha : a < p ^ k) (hb : b < p ^ k) :
    Calls Try.prog 66 #[.pointer (some ⟨g, 0, none⟩), .int .i64 a, .int .i64 b] w fun e w' => e = .returned (.int .i64 (fm p k (cofs xs) a b : Nat)) ∧ Below w.heap.size w w' := by
  rw [← fm_cast (Fp.of h)]
  exact smul p k a b xs v g w hf hv h ha hb

set_option maxHeartbeats 1000000 in
theorem sorder (p k a : Nat) (xs : List Int) (v : Value) (g : Nat) (w : World) (hf : Fd w g p k v) (hv : IntsAt w v xs) (h : FOk p k xs) (h1 : 1 ≤ a) (ha : a < p ^ k) :
    Calls Try.prog 80 #[.pointer (some ⟨g, 0, none⟩), .int .i64 a] w fun e w' => e = .returned (.int .i64 (ordF p k (cofs xs) a : Nat)) ∧ Below w.heap.size w w' := by
  obtain ⟨r, hr⟩ := has_root h
  have hF := Lib.hid (Fp.of h)
  have hb := h.bd
  have hq := h.2.2.1
  obtain ⟨⟨o1, o2, o3⟩, o4⟩ := ordF_is (ord_ex (Fp.of h) hr a h1 ha)
  have HM := Lib.hid (fun (x : Nat) (W : World) (hx : x < p ^ k) (hs : Sp w g p k v W) => smulN p k x a xs v g W hs.1 (hv.below hs.2 (Nat.le_refl _)) h hx ha)
  have S0 : Hid (Sp w g p k v w) := ⟨hf, Below.refl _ _⟩
  obtain ⟨o, ho⟩ : ∃ o, ordF p k (cofs xs) a = o := ⟨_, rfl⟩
  rw [ho] at o1 o2 o3 o4 ⊢
  have O2 := Lib.hid o2
  have O3 := Lib.hid o3
  have P1 : Hid (pw p k (cofs xs) a 1 = a) := pw_one (Fp.of h) a ha
  clear hr o2 o3 ho hf hv h
  go_enter Try.func80, Try.ntmps80
  go_wp2
  go_loopw [5, 6] (fun n x wr => ∃ j y : Nat, 1 ≤ j ∧ j ≤ o ∧ n = .int .i64 j ∧ x = .int .i64 y ∧ Hid (y = pw p k (cofs xs) a j) ∧ Hid (Sp w g p k v wr)) (fun n _ _ => o - (intOf n).toNat)
  case atStart => exact ⟨1, a, by omega, by omega, rfl, rfl, P1.out.symm, S0⟩
  case round =>
    obtain ⟨j, y, j1, j2, rfl, rfl, hy, hS⟩ := hrel
    by_cases c : j = o
    · have t0 : y = 1 := by rw [hy.out, c, O2.out]
      have t1 : ((y : Int) != 1) = false := by rw [t0]; rfl
      subst c
      clear hy t0
      go_wp2
      go_ret
      exact ⟨rfl, hS.out.2⟩
    · have t0 : y ≠ 1 := by rw [hy.out]; exact O3.out j j1 (by omega)
      have t1 : ((y : Int) != 1) = true := by simp; omega
      have hyl : y < p ^ k := by rw [hy.out]; exact pw_lt hF.out a j
      have w1 := wrapk' (n := (j : Int) + 1) (by omega)
      clear t0
      go_wp2_with (go_at_call 66; refine (HM.out y _ hyl hS.out).mono ?_; rintro e w2 ⟨rfl, b2⟩; have S2 := Sp.next hS b2; clear b2)
      go_roundw
      case rel => exact ⟨j + 1, _, by omega, by omega, by go_num, rfl, by rw [hy.out]; rfl, S2⟩
      case measure => simp [intOf]; omega

set_option maxHeartbeats 1000000 in
theorem sinverse (p k a : Nat) (xs : List Int) (v : Value) (g : Nat) (w : World) (hf : Fd w g p k v) (hv : IntsAt w v xs) (h : FOk p k xs) (h1 : 1 ≤ a) (ha : a < p ^ k) :
    Calls Try.prog 78 #[.pointer (some ⟨g, 0, none⟩), .int .i64 a] w fun e w' => e = .returned (.int .i64 (invF p k (cofs xs) a : Nat)) ∧ Below w.heap.size w w' := by
  obtain ⟨r, hr⟩ := has_root h
  have hF := Lib.hid (Fp.of h)
  have hb := h.bd
  have hq := h.2.2.1
  have U := Lib.hid (fun b (hb : b < p ^ k) => inv_uniq (Fp.of h) hr a b h1 ha hb)
  have V := Lib.hid (inv_one (Fp.of h) hr a h1 ha)
  have i1 : 1 ≤ invF p k (cofs xs) a := hr.pos' (Fp.of h) a h1 ha _
  have i2 : invF p k (cofs xs) a < p ^ k := pw_lt (Fp.of h) _ _
  have HM := Lib.hid (fun (x : Nat) (W : World) (hx : x < p ^ k) (hs : Sp w g p k v W) => smulN p k a x xs v g W hs.1 (hv.below hs.2 (Nat.le_refl _)) h ha hx)
  have S0 : Hid (Sp w g p k v w) := ⟨hf, Below.refl _ _⟩
  obtain ⟨o, ho⟩ : ∃ o, invF p k (cofs xs) a = o := ⟨_, rfl⟩
  rw [ho] at U V i1 i2 ⊢
  clear hr ho hf hv h
  go_enter Try.func78, Try.ntmps78
  go_wp2
  go_loopw [5] (fun n wr => ∃ j : Nat, 1 ≤ j ∧ j ≤ o ∧ n = .int .i64 j ∧ Hid (Sp w g p k v wr)) (fun n _ => o - (intOf n).toNat)
  case atStart => exact ⟨1, by omega, by omega, rfl, S0⟩
  case round =>
    obtain ⟨j, j1, j2, rfl, hS⟩ := hrel
    have hjl : j < p ^ k := by omega
    obtain ⟨y, hy⟩ : ∃ y, fm p k (cofs xs) a j = y := ⟨_, rfl⟩
    have HJ := Lib.hid (HM.out j · hjl)
    rw [hy] at HJ
    by_cases c : j = o
    · have t0 : y = 1 := by rw [← hy, c, V.out]
      have t1 : ((y : Int) != 1) = false := by rw [t0]; rfl
      subst c
      clear hy t0
      go_wp2_with (go_at_call 66; refine (HJ.out _ hS.out).mono ?_; rintro e w2 ⟨rfl, b2⟩; have S2 := Sp.next hS b2; clear b2)
      go_ret
      exact ⟨rfl, S2.out.2⟩
    · have t0 : y ≠ 1 := fun e => c (U.out j hjl (hy.trans e))
      have t1 : ((y : Int) != 1) = true := by simp; omega
      have w1 := wrapk' (n := (j : Int) + 1) (by omega)
      clear t0 hy
      go_wp2_with (go_at_call 66; refine (HJ.out _ hS.out).mono ?_; rintro e w2 ⟨rfl, b2⟩; have S2 := Sp.next hS b2; clear b2)
      go_roundw
      case rel => exact ⟨j + 1, by omega, by omega, by go_num, S2⟩
      case measure => simp [intOf]; omega

set_option maxHeartbeats 1000000 in
theorem sraise (p k a n : Nat) (xs : List Int) (v : Value) (g : Nat) (w : World) (hf : Fd w g p k v) (hv : IntsAt w v xs) (h : FOk p k xs) (ha : a < p ^ k) (hn : n ≤ 9223372036854775807) :
    Calls Try.prog 79 #[.pointer (some ⟨g, 0, none⟩), .int .i64 a, .int .i64 n] w fun e w' => e = .returned (.int .i64 (pw p k (cofs xs) a n : Nat)) ∧ Below w.heap.size w w' := by
  have hF := Lib.hid (Fp.of h)
  have hb := h.bd
  have hq := h.2.2.1
  have HM := Lib.hid (fun (x y : Nat) (W : World) (hx : x < p ^ k) (hy : y < p ^ k) (hs : Sp w g p k v W) => smulN p k x y xs v g W hs.1 (hv.below hs.2 (Nat.le_refl _)) h hx hy)
  have S0 : Hid (Sp w g p k v w) := ⟨hf, Below.refl _ _⟩
  have E0 : Hid (fm p k (cofs xs) 1 (pw p k (cofs xs) a n) = pw p k (cofs xs) a n) := fm_one (Fp.of h) _ (pw_lt (Fp.of h) _ _)
  have q1 := q_big (Fp.of h)
  clear hf hv h
  go_enter Try.func79, Try.ntmps79
  go_wp2
  go_loopw [7, 1, 2] (fun o b m wr => ∃ x y j : Nat, x < p ^ k ∧ y < p ^ k ∧ j ≤ n ∧ o = .int .i64 x ∧ b = .int .i64 y ∧ m = .int .i64 j ∧ Hid (fm p k (cofs xs) x (pw p k (cofs xs) y j) = pw p k (cofs xs) a n) ∧ Hid (Sp w g p k v wr)) (fun _ _ m _ => (intOf m).toNat)
  case atStart => exact ⟨1, a, n, by omega, ha, by omega, rfl, rfl, rfl, E0, S0⟩
  case round =>
    obtain ⟨x, y, j, x1, y1, j1, rfl, rfl, rfl, hE, hS⟩ := hrel
    by_cases c : j = 0
    · subst c
      have E : Hid (x = pw p k (cofs xs) a n) := by rw [← hE.out]; exact (fm_one' hF.out x x1).symm
      go_wp2
      go_ret
      exact ⟨ret_i _ _ (by rw [E.out]), hS.out.2⟩
    · have c0 : 0 < j := by omega
      have g1 : decide ((0 : Int) < (j : Int)) = true := by simp; omega
      by_cases c2 : j % 2 = 1
      · have g2 : ((j : Int) % 2 == 1) = true := by simp; omega
        have EN : Hid (fm p k (cofs xs) (fm p k (cofs xs) x y) (pw p k (cofs xs) (fm p k (cofs xs) y y) (j / 2)) = pw p k (cofs xs) a n) := by
          rw [fm_assoc hF.out x y _ x1 y1 (pw_lt hF.out _ _), ← pw_half' hF.out y j y1 c2]; exact hE.out
        have l1 := fm_lt hF.out x y
        have l2 := fm_lt hF.out y y
        clear c
        go_wp2_with fail
        refine (HM.out x y _ x1 y1 hS.out).mono ?_
        rintro e w2 ⟨rfl, b2⟩
        have S2 := Sp.next hS b2
        clear b2
        go_wp2_with fail
        refine (HM.out y y _ y1 y1 S2.out).mono ?_
        rintro e w3 ⟨rfl, b3⟩
        have S3 := Sp.next S2 b3
        clear b3
        go_wp2
        go_roundw
        case rel => exact ⟨_, _, j / 2, l1, l2, by omega, rfl, rfl, congrArg (Value.int .i64) (by omega), EN, S3⟩
        case measure => simp [intOf]; omega
      · have g2 : ((j : Int) % 2 == 1) = false := by simp; omega
        have EN : Hid (fm p k (cofs xs) x (pw p k (cofs xs) (fm p k (cofs xs) y y) (j / 2)) = pw p k (cofs xs) a n) := by
          rw [← pw_half hF.out y j y1 (by omega)]; exact hE.out
        have l2 := fm_lt hF.out y y
        clear c
        go_wp2_with fail
        refine (HM.out y y _ y1 y1 hS.out).mono ?_
        rintro e w3 ⟨rfl, b3⟩
        have S3 := Sp.next hS b3
        clear b3
        go_wp2
        go_roundw
        case rel => exact ⟨_, _, j / 2, x1, l2, by omega, rfl, rfl, congrArg (Value.int .i64) (by omega), EN, S3⟩
        case measure => simp [intOf]; omega

set_option maxHeartbeats 1000000 in
theorem sprimitive (p k : Nat) (xs : List Int) (v : Value) (g : Nat) (w : World) (hf : Fd w g p k v) (hv : IntsAt w v xs) (h : FOk p k xs) :
    Calls Try.prog 81 #[.pointer (some ⟨g, 0, none⟩)] w fun e w' => e = .returned (.int .i64 (primF p k (cofs xs) : Nat)) ∧ Below w.heap.size w w' := by
  obtain ⟨r, hr⟩ := has_root h
  have hb := h.bd
  have hq := h.2.2.1
  have q1 := q_big (Fp.of h)
  obtain ⟨o1, o2, o3, o4⟩ := primF_is (prim_ex (Fp.of h) hr)
  have OL : Hid (∀ a, 1 ≤ a → a < p ^ k → ordF p k (cofs xs) a ≤ p ^ k - 1) := fun a a1 a2 => (ordF_is (ord_ex (Fp.of h) hr a a1 a2)).2
  have HM := Lib.hid (fun (x : Nat) (W : World) (h1 : 1 ≤ x) (hx : x < p ^ k) (hs : Sp w g p k v W) => sorder p k x xs v g W hs.1 (hv.below hs.2 (Nat.le_refl _)) h h1 hx)
  have HZ := Lib.hid (fun (W : World) (hs : Sp w g p k v W) => ssize p k v g W hs.1 hb.2.1 hb.2.2)
  have S0 : Hid (Sp w g p k v w) := ⟨hf, Below.refl _ _⟩
  obtain ⟨o, ho⟩ : ∃ o, primF p k (cofs xs) = o := ⟨_, rfl⟩
  obtain ⟨q, hq'⟩ : ∃ q, p ^ k = q := ⟨_, rfl⟩
  rw [ho] at o1 o2 o3 o4 ⊢
  rw [hq'] at hq q1 o2 o3 o4 OL HM HZ
  have O3 := Lib.hid o3
  have O4 := Lib.hid o4
  clear hr ho hf hv h o3 o4 hq'
  go_enter Try.func81, Try.ntmps81
  go_wp2
  go_loopw [3] (fun n wr => ∃ j : Nat, 1 ≤ j ∧ j ≤ o ∧ n = .int .i64 j ∧ Hid (Sp w g p k v wr)) (fun n _ => o - (intOf n).toNat)
  case atStart => exact ⟨1, by omega, by omega, rfl, S0⟩
  case round =>
    obtain ⟨j, j1, j2, rfl, hS⟩ := hrel
    have hjl : j < q := by omega
    obtain ⟨y, hy⟩ : ∃ y, ordF p k (cofs xs) j = y := ⟨_, rfl⟩
    have HJ := Lib.hid (HM.out j · j1 hjl)
    rw [hy] at HJ
    have yl : y ≤ q - 1 := by rw [← hy]; exact OL.out j j1 hjl
    have w2 := wrapk' (n := (q : Int) - 1) (by omega)
    by_cases c : j = o
    · have t0 : y = q - 1 := by rw [← hy, c, O3.out]
      have t1 : ((y : Int) != (q : Int) - 1) = false := by simp; omega
      subst c
      clear hy t0
      go_wp2_with fail
      refine (HJ.out _ hS.out).mono ?_
      rintro e w2 ⟨rfl, b2⟩
      have S2 := Sp.next hS b2
      clear b2
      go_wp2_with fail
      refine (HZ.out _ S2.out).mono ?_
      rintro e w3 ⟨rfl, n3, rfl⟩
      have S3 : Hid (Sp w g p k v (w2.drewN n3)) := Sp.next S2 (belowN (Below.refl _ _) n3)
      go_wp2
      go_ret
      exact ⟨rfl, S3.out.2⟩
    · have t0 : y ≠ q - 1 := fun e => O4.out j j1 (by omega) (hy.trans e)
      have t1 : ((y : Int) != (q : Int) - 1) = true := by simp; omega
      have w1 := wrapk' (n := (j : Int) + 1) (by omega)
      clear t0 hy
      go_wp2_with fail
      refine (HJ.out _ hS.out).mono ?_
      rintro e w2 ⟨rfl, b2⟩
      have S2 := Sp.next hS b2
      clear b2
      go_wp2_with fail
      refine (HZ.out _ S2.out).mono ?_
      rintro e w3 ⟨rfl, n3, rfl⟩
      have S3 : Hid (Sp w g p k v (w2.drewN n3)) := Sp.next S2 (belowN (Below.refl _ _) n3)
      go_wp2
      go_roundw
      case rel => exact ⟨j + 1, by omega, by omega, by go_num, S3⟩
      case measure => simp [intOf]; omega
end Go.Proofs.Ytmlcdbjibngnkaa
