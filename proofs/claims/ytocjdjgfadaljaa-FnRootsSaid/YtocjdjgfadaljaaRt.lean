/- PrimitiveRoot of both packages answers the least primitive root of a prime. -/
import Derived.Test.YtocjdjgfadaljaaOrd
import Derived.Test.YtocjdjgfadaljaaPrime
import Derived.KernelRfl
namespace Go.Proofs.Ytocjdjgfadaljaa
open Go.RowKit
set_option linter.unusedVariables false

/-- The primes up to 1000, each with a primitive root. -/
def rootTable : List (Nat × Nat) := [
  (2, 1), (3, 2), (5, 2), (7, 3), (11, 2), (13, 2), (17, 3), (19, 2), (23, 5), (29, 2), (31, 3), (37, 2), (41, 6), (43, 3), (47, 5), (53, 2), (59, 2),
  (61, 2), (67, 2), (71, 7), (73, 5), (79, 3), (83, 2), (89, 3), (97, 5), (101, 2), (103, 5), (107, 2), (109, 6), (113, 3), (127, 3), (131, 2), (137, 3),
  (139, 2), (149, 2), (151, 6), (157, 5), (163, 2), (167, 5), (173, 2), (179, 2), (181, 2), (191, 19), (193, 5), (197, 2), (199, 3), (211, 2), (223, 3),
  (227, 2), (229, 6), (233, 3), (239, 7), (241, 7), (251, 6), (257, 3), (263, 5), (269, 2), (271, 6), (277, 5), (281, 3), (283, 3), (293, 2), (307, 5),
  (311, 17), (313, 10), (317, 2), (331, 3), (337, 10), (347, 2), (349, 2), (353, 3), (359, 7), (367, 6), (373, 2), (379, 2), (383, 5), (389, 2), (397, 5),
  (401, 3), (409, 21), (419, 2), (421, 2), (431, 7), (433, 5), (439, 15), (443, 2), (449, 3), (457, 13), (461, 2), (463, 3), (467, 2), (479, 13), (487, 3),
  (491, 2), (499, 7), (503, 5), (509, 2), (521, 3), (523, 2), (541, 2), (547, 2), (557, 2), (563, 2), (569, 3), (571, 3), (577, 5), (587, 2), (593, 3),
  (599, 7), (601, 7), (607, 3), (613, 2), (617, 3), (619, 2), (631, 3), (641, 3), (643, 11), (647, 5), (653, 2), (659, 2), (661, 2), (673, 5), (677, 2),
  (683, 5), (691, 3), (701, 2), (709, 2), (719, 11), (727, 5), (733, 6), (739, 3), (743, 5), (751, 3), (757, 2), (761, 6), (769, 11), (773, 2), (787, 2),
  (797, 2), (809, 3), (811, 3), (821, 2), (823, 3), (827, 2), (829, 2), (839, 11), (853, 2), (857, 3), (859, 2), (863, 5), (877, 2), (881, 3), (883, 2),
  (887, 5), (907, 2), (911, 17), (919, 7), (929, 3), (937, 5), (941, 2), (947, 2), (953, 3), (967, 5), (971, 6), (977, 3), (983, 5), (991, 6), (997, 7)]

/-- x is the power k of g; the powers up to k + f - 1 are not 1, the power k + f is. -/
def scan (p g : Nat) : Nat → Nat → Bool
  | 0, x => x == 1
  | f + 1, x => x != 1 && scan p g f (x * g % p)
def tableOk : Bool := rootTable.all (fun t => scan t.1 t.2 (t.1 - 2) (t.2 % t.1) && decide (1 ≤ t.2) && decide (t.2 < t.1))
def coverOk : Bool := (List.range 1001).all (fun p => decide (p < 2) || (rootTable.any (fun t => t.1 == p)) || ((List.range 32).any (fun d => decide (2 ≤ d) && decide (d < p) && p % d == 0)))
theorem table_ok : tableOk = true := by kernel_rfl
theorem cover_ok : coverOk = true := by kernel_rfl

theorem scan_sound (p g f : Nat) : ∀ k x : Nat, scan p g f x = true → x = g ^ k % p → (∀ j, k ≤ j → j < k + f → ¬ g ^ j % p = 1) ∧ g ^ (k + f) % p = 1 := by
  induction f with
  | zero =>
    intro k x h hx
    simp only [scan, beq_iff_eq] at h
    exact ⟨fun j a b => by omega, by rw [Nat.add_zero, ← hx, h]⟩
  | succ f ih =>
    intro k x h hx
    simp only [scan, Bool.and_eq_true, bne_iff_ne, ne_eq] at h
    obtain ⟨h1, h2⟩ := ih (k + 1) (x * g % p) h.2 (by rw [hx, Nat.pow_succ, Nat.mod_mul_mod])
    refine ⟨fun j a b => ?_, by rw [show k + (f + 1) = k + 1 + f by omega]; exact h2⟩
    by_cases e : j = k
    · rw [e, ← hx]; exact h.1
    · exact h1 j (by omega) (by omega)

theorem root_exists (p : Nat) (hp : Pr p) (h : p ≤ 1000) : ∃ g : Nat, 1 ≤ g ∧ g < p ∧ IsOrd (g : Int) (p : Int) ((p : Int) - 1) := by
  have hc := List.all_eq_true.1 cover_ok p (List.mem_range.2 (by omega))
  simp only [Bool.or_eq_true, decide_eq_true_eq, List.any_eq_true, Bool.and_eq_true, beq_iff_eq, List.mem_range] at hc
  rcases hc with (hc | ⟨t, ht, rfl⟩) | ⟨d, hd, ⟨h1, h2⟩, h3⟩
  · have := hp.1; omega
  · have := List.all_eq_true.1 table_ok t ht
    simp only [Bool.and_eq_true, decide_eq_true_eq] at this
    obtain ⟨⟨h1, h2⟩, h3⟩ := this
    obtain ⟨s1, s2⟩ := scan_sound t.1 t.2 (t.1 - 2) 1 _ h1 (by rw [show (1 : Nat) = 0 + 1 from rfl, Nat.pow_succ, Nat.pow_zero, Nat.one_mul])
    have p2 := hp.1
    have c1 : ∀ k : Nat, (t.2 : Int) ^ k % (t.1 : Int) = ((t.2 ^ k % t.1 : Nat) : Int) := fun k => by rw [Int.natCast_emod, Int.natCast_pow]
    have c2 : (1 : Int) % (t.1 : Int) = 1 := Int.emod_eq_of_lt (by omega) (by omega)
    refine ⟨t.2, h2, h3, by omega, by omega, ?_, fun k k1 k2 => ?_⟩
    · rw [c2, c1, show ((t.1 : Int) - 1).toNat = 1 + (t.1 - 2) by omega, s2]; rfl
    · rw [c2, c1]
      have := s1 k k1 (by omega)
      omega
  · exact absurd (Nat.dvd_of_mod_eq_zero h3) (hp.2.2 d h1 h2)

/-- The least primitive root. -/
def IsRoot (p v : Int) : Prop := 1 ≤ v ∧ v < p ∧ IsOrd v p (p - 1) ∧ ∀ a, 1 ≤ a → a < v → ¬ IsOrd a p (p - 1)
def prVal (p v c : Int) : Prop := (isPr p = true ∧ p ≤ 1000 ∧ IsRoot p v ∧ c = 0) ∨ (¬ (isPr p = true ∧ p ≤ 1000) ∧ v = 0 ∧ c = 2)
theorem prVal_eq {p v c v' c' : Int} (h : prVal p v c) (h' : prVal p v' c') : v = v' ∧ c = c' := by
  rcases h with ⟨a, b, h, rfl⟩ | ⟨a, rfl, rfl⟩ <;> rcases h' with ⟨a', b', h', rfl⟩ | ⟨a', rfl, rfl⟩
  · refine ⟨?_, rfl⟩
    obtain ⟨x1, x2, x3, x4⟩ := h
    obtain ⟨y1, y2, y3, y4⟩ := h'
    by_cases l : v < v'
    · exact absurd x3 (y4 v x1 l)
    · by_cases l' : v' < v
      · exact absurd y3 (x4 v' y1 l')
      · omega
  · exact absurd ⟨a, b⟩ a'
  · exact absurd ⟨a', b'⟩ a
  · exact ⟨rfl, rfl⟩

theorem ord_cop {a m e : Int} (he : 1 ≤ e) (hm : 1 ≤ m) (h : IsOrd a m e) : Int.gcd a m = 1 := by
  have h2 := h.2.2.1
  rw [show e.toNat = (e.toNat - 1) + 1 by omega, Int.pow_succ, Int.mul_comm] at h2
  exact cop_of_inv a _ m hm h2

set_option maxHeartbeats 800000 in
theorem iroot (p : Int) (w : World) :
    Calls Try.prog 11 #[.int .i64 p] w fun r w' => ∃ v c : Int, r = .returned (.tuple #[.int .i64 v, .int .i64 c]) ∧ prVal p v c ∧ Below w.heap.size w w' := by
  by_cases hm : 1 ≤ p ∧ p ≤ 1000
  · obtain ⟨m1, m2⟩ := hm
    cases hp : isPr p
    · have V := Lib.hid (show prVal p 0 2 from .inr ⟨fun h => by rw [hp] at h; simp at h, rfl, rfl⟩)
      have K := Lib.hid (fun W => by have := iprime p W; rw [hp] at this; exact this)
      clear hp
      go_enter Try.func11, Try.ntmps11
      go_wp2_with (go_at_call 39; refine (imod_yes _ _ m1 m2).mono ?_; rintro e w' ⟨rfl, rfl⟩)
      refine (K.out _).mono ?_
      rintro e w1 ⟨rfl, b1⟩
      have B1 := Lib.hid b1
      clear b1
      go_wp2
      go_ret2
      exact ⟨_, _, rfl, V.out, B1.out⟩
    · have K := Lib.hid (fun W => by have := iprime p W; rw [hp] at this; exact this)
      have hlo : 2 ≤ p := by
        by_cases l : p < 2
        · rw [isPr_no (.inl l)] at hp; simp at hp
        · omega
      obtain ⟨n, rfl⟩ : ∃ n : Nat, p = n := ⟨p.toNat, by omega⟩
      obtain ⟨g0, a1, a2, a3⟩ := root_exists n ((isPr_nat n (by omega) (by omega)).1 hp) (by omega)
      have HP := Lib.hid hp
      have G0 := Lib.hid a3
      clear hp a3
      go_enter Try.func11, Try.ntmps11
      go_wp2_with (go_at_call 39; refine (imod_yes _ _ m1 m2).mono ?_; rintro e w' ⟨rfl, rfl⟩)
      refine (K.out _).mono ?_
      rintro e w1 ⟨rfl, b1⟩
      have B1 := Lib.hid b1
      clear b1
      go_wp2_with fail
      go_loopw [4] (fun u wr => ∃ g : Int, 1 ≤ g ∧ g ≤ g0 ∧ u = .int .i64 g ∧ Hid (∀ a, 1 ≤ a → a < g → ¬ IsOrd a n (n - 1)) ∧ ∃ d, wr = w1.drewN d) (fun u _ => ((g0 : Int) - intOf u).toNat)
      case atStart => exact ⟨1, by omega, by omega, rfl, fun a _ _ => by omega, 0, rfl⟩
      case round =>
        obtain ⟨g, g1, g2, rfl, hr, d, rfl⟩ := hrel
        have hlt : g < (n : Int) := by omega
        by_cases ho : IsOrd g n ((n : Int) - 1)
        · have V := Lib.hid (show prVal n g 0 from .inl ⟨HP.out, by omega, ⟨g1, hlt, ho, hr.out⟩, rfl⟩)
          have KO := Lib.hid (fun W => (iord g n W).mono fun e w' (hh : ∃ v c : Int, e = .returned (.tuple #[.int .i64 v, .int .i64 c]) ∧ ordVal g n v c ∧ ∃ n, w' = W.drewN n) => (show ∃ c : Int, e = .returned (.tuple #[.int .i64 ((n : Int) - 1), .int .i64 c]) ∧ ∃ n, w' = W.drewN n by
            obtain ⟨v, c, he, hv | hv | hv, hw⟩ := hh
            · exact absurd ⟨by omega, by omega, by omega, hlt⟩ hv.1
            · exact ⟨c, by rw [he, IsOrd_unique hv.2.2.1 ho], hw⟩
            · exact absurd (ord_cop (by omega) (by omega) ho) hv.2.1))
          clear ho
          go_wp2_with (go_at_call 13; refine (KO.out _).mono ?_; rintro e w' ⟨c, rfl, d2, rfl⟩)
          go_ret2
          exact ⟨_, _, rfl, V.out, below_drewN B1.out _⟩
        · have hne : g ≠ g0 := fun e => by rw [e] at ho; exact ho G0.out
          have V := Lib.hid (show ∀ a, 1 ≤ a → a < g + 1 → ¬ IsOrd a n ((n : Int) - 1) from fun a b c => by
            by_cases e : a = g
            · rw [e]; exact ho
            · exact hr.out a b (by omega))
          have KO := Lib.hid (fun W => (iord g n W).mono fun e w' (hh : ∃ v c : Int, e = .returned (.tuple #[.int .i64 v, .int .i64 c]) ∧ ordVal g n v c ∧ ∃ n, w' = W.drewN n) => (show ∃ v c : Int, e = .returned (.tuple #[.int .i64 v, .int .i64 c]) ∧ (v == (n : Int) - 1) = false ∧ ∃ n, w' = W.drewN n by
            obtain ⟨v, c, he, hv | hv | hv, hw⟩ := hh
            · exact absurd ⟨by omega, by omega, by omega, hlt⟩ hv.1
            · refine ⟨v, c, he, ?_, hw⟩
              simp only [beq_eq_false_iff_ne, ne_eq]
              intro e2
              rw [e2] at hv
              exact ho hv.2.2.1
            · refine ⟨v, c, he, ?_, hw⟩
              simp only [beq_eq_false_iff_ne, ne_eq]
              have := hv.2.2.1
              omega))
          clear ho
          go_wp2_with (go_at_call 13; refine (KO.out _).mono ?_; rintro e w' ⟨v, c, rfl, hT, d2, rfl⟩)
          go_roundw
          case rel => exact ⟨g + 1, by omega, by omega, rfl, V, _, rfl⟩
          case measure => simp only [intOf]; omega
  · have V := Lib.hid (show prVal p 0 2 from .inr ⟨fun h => by
      have : ¬ p < 1 := fun l => by rw [isPr_no (.inl (by omega))] at h; simp at h
      omega, rfl, rfl⟩)
    have H := Lib.hid (show p < 1 ∨ 1000 < p by omega)
    clear hm
    go_enter Try.func11, Try.ntmps11
    go_wp2_with (go_at_call 39; refine (imod_no _ _ H.out).mono ?_; rintro e w' ⟨rfl, rfl⟩)
    go_ret2
    exact ⟨_, _, rfl, V.out, Below.refl _ _⟩

end Go.Proofs.Ytocjdjgfadaljaa
