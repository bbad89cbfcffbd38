/- FactorsOf of the program. -/
import Derived.Test.YtocjdjgfadaljaaRoot
namespace Go.Proofs.Ytocjdjgfadaljaa
open Go.RowKit
set_option linter.unusedVariables false

theorem root_any (n : Nat) (w : World) (h1 : 1 ≤ n) (h2 : n ≤ 1000000) :
    Calls Try.prog 44 #[.int .i64 n] w fun e w' => ∃ L : Nat, e = .returned (.int .i64 L) ∧ (1 ≤ L ∧ L ≤ 1000 ∧ n < (L + 1) * (L + 1)) ∧ Below w.heap.size w w' := by
  have hmf : ∀ (fn : Fn) (first cap : Array Value) (w : World), (Instr.makeFunc fn first cap).run Try.prog w = .ok (.func fn first cap) w := fun _ _ _ _ => rfl
  go_enter Try.func44, Try.ntmps44
  go_wp2_with fail
  refine (search_root _ n _ h1 h2 ?c1).mono ?_
  case c1 => simp
  rintro e w' ⟨L, rfl, hL, rfl⟩
  have HL := Lib.hid hL
  clear hL
  go_wp2
  go_ret
  exact ⟨L, rfl, HL.out, (Below.refl _ _).alloc (Nat.le_refl _) _⟩

theorem Ints.shape {w : World} {B : Nat} {v : Value} {xs : List Int} (h : Ints w B v xs) : ∃ a cap, v = .slice a xs.length cap ∧
    ∀ j, j < xs.length → ∃ g, a = some ⟨g, 0, none⟩ ∧ g < w.heap.size ∧ w.cell? ⟨g, j, none⟩ = some (.int .i64 (xs.getD j 0)) := by
  have hh := h
  obtain ⟨h1, ⟨rfl, h2⟩ | ⟨g, cap, cur, rfl, h3, h4, h5, h6, h7, h8⟩⟩ := h
  · rw [List.length_eq_zero_iff.1 h2]
    exact ⟨none, 0, rfl, fun j hj => absurd hj (by simp)⟩
  · refine ⟨_, cap, rfl, fun j hj => ⟨g, rfl, (World.ownsRow.lt hh g rfl).2, ?_⟩⟩
    rw [World.ownsRow.cellAt hh j (by omega)]
    simp [List.getElem?_map, List.getElem?_eq_getElem hj, List.getD]

theorem ints_getD (xs : List Nat) (j : Nat) (h : j < xs.length) : (ints xs).getD j 0 = (xs[j] : Int) := by
  simp [ints, List.getD, List.getElem?_map, List.getElem?_eq_getElem h]

/-- The first j primes do not divide. -/
def Tried (D j m : Nat) : Prop := ∀ i, (h : i < (prs D).length) → i < j → ¬ (prs D)[i] ∣ m
theorem tried_noDiv {D j m : Nat} (h : Tried D j m) (hj : j < (prs D).length) : NoDiv m (prs D)[j] :=
  noDiv_of_pr fun q hq hlt => by
    obtain ⟨i, hi, hij, e⟩ := prs_before hj hq hlt
    rw [← e]; exact h i hi hij
theorem tried_succ {D j m : Nat} (hj : j < (prs D).length) (h : NoDiv m ((prs D)[j] + 1)) : Tried D (j + 1) m := by
  intro i hi hij
  have hp : Pr (prs D)[i] := (prs_mem.1 (List.getElem_mem hi)).2
  refine h _ hp.1 ?_
  by_cases e : i = j
  · subst e; omega
  · have := prs_sorted D i j hi hj (by omega); omega
theorem tried_all {D m : Nat} (h : Tried D (prs D).length m) : NoDiv m D :=
  noDiv_of_pr fun q hq hlt => by
    obtain ⟨i, hi, e⟩ := List.getElem_of_mem (prs_mem.2 ⟨hlt, hq⟩)
    rw [← e]; exact h i hi hi

theorem ifactors_no (n : Int) (w : World) (h : n < 1 ∨ 1000000 < n) :
    Calls Try.prog 18 #[.int .i64 n] w fun e w' => ∃ v, e = .returned v ∧ Ints w' w.heap.size v [] ∧ Below w.heap.size w w' := by
  rcases h with h | h
  all_goals
    go_enter Try.func18, Try.ntmps18
    go_wp2
    go_ret
    exact ⟨_, rfl, World.ownsRow_nil _ _ _ _, Below.refl _ _⟩

set_option maxHeartbeats 3200000 in
theorem ifactors (n : Nat) (w : World) (h1 : 1 ≤ n) (h2 : n ≤ 1000000) :
    Calls Try.prog 18 #[.int .i64 n] w fun e w' => ∃ v, e = .returned v ∧ FacOut n w w' v := by
  have a1 : ¬ (n : Int) < 1 := by omega
  have a2 : ¬ (1000000 : Int) < (n : Int) := by omega
  go_enter Try.func18, Try.ntmps18
  go_wp2_with fail
  refine (root_any n _ h1 h2).mono ?_
  rintro e w1 ⟨L, rfl, hL, b1⟩
  have HL := Lib.hid hL
  have B1 := Lib.hid b1
  clear hL b1
  go_wp2_with fail
  refine (primesTo_any L _ HL.out.1 HL.out.2.1).mono ?_
  rintro e w2 ⟨vP, rfl, iP, b2⟩
  obtain ⟨aP, capP, rfl, hcell⟩ := iP.shape
  have B2 := Lib.hid (B1.out.trans (b2.mono B1.out.size))
  obtain ⟨D, hD⟩ : ∃ D, L + 1 = D := ⟨_, rfl⟩
  rw [hD] at hcell ⊢
  rw [ints_length] at hcell ⊢
  obtain ⟨len, hlen⟩ : ∃ len, (prs D).length = len := ⟨_, rfl⟩
  have hle : len ≤ 1001 := by rw [← hlen, ← hD]; have := prs_length (L + 1); have := HL.out.2.1; omega
  have HD := Lib.hid hD
  have HC := Lib.hid hcell
  have HN := Lib.hid hlen
  rw [hlen]
  clear b2 iP hcell hlen hD
  obtain ⟨B, hB⟩ : ∃ B, w2.heap.size = B := ⟨_, rfl⟩
  have hB0 : w.heap.size ≤ B := by rw [← hB]; exact B2.out.size
  have hB1 : B ≤ w2.heap.size := by omega
  have HE := Lib.hid hB
  clear hB
  go_wp2_with fail
  go_loopw [3, 4, 18] (fun v r i wr => ∃ (j m : Nat) (out : List Nat), j ≤ len ∧ i = .int .i64 j ∧ r = .int .i64 m ∧ Hid (Left n m out ∧ Tried D j m) ∧ Hid (Ints wr B v (ints out)) ∧ Hid (Below B w2 wr)) (fun _ _ i _ => len - (intOf i).toNat)
  case atStart => exact ⟨0, n, [], by omega, rfl, rfl, ⟨left_start n h1, fun i _ h => by omega⟩, World.ownsRow_nil _ _ _ _, Below.refl _ _⟩
  case round =>
    obtain ⟨j, m, out, hj, rfl, rfl, hL, hI, hBl⟩ := hrel
    by_cases hlt : j < len
    · obtain ⟨g, ha, hg, hc0⟩ := HC.out j (by rw [HN.out]; exact hlt)
      have hjl : j < (prs D).length := by rw [HN.out]; exact hlt
      obtain ⟨p, hp⟩ : ∃ p, (prs D)[j] = p := ⟨_, rfl⟩
      rw [ints_getD _ j hjl, hp] at hc0
      have hc : wr.cell? ⟨g, j, none⟩ = some (.int .i64 p) := (hBl.out.cell (p := ⟨g, j, none⟩) (by show g < B; rw [← HE.out]; exact hg)).trans hc0
      have hpr : Pr p := by rw [← hp]; exact (prs_mem.1 (List.getElem_mem hjl)).2
      have p2 := hpr.1
      have p3 : p ≤ 1001 := by rw [← hp]; have := (prs_mem.1 (List.getElem_mem hjl)).1; have := HD.out; have := HL.out.2.1; omega
      have hnd : NoDiv m p := by rw [← hp]; exact tried_noDiv hL.out.2 hjl
      have HP := Lib.hid hp
      have L0 := Lib.hid (show Left n m out ∧ NoDiv m p from ⟨hL.out.1, hnd⟩)
      have z1 : ¬ (p : Int) = 0 := by omega
      have i1 : (0 : Int) ≤ (j : Int) := by omega
      have i2 : (j : Int) < (len : Int) := by omega
      subst ha
      clear hp hpr hnd hg hc0 hL
      obtain ⟨wq, rfl⟩ : ∃ wq : World, wq = wr := ⟨_, rfl⟩
      go_wp2
      go_loopw [3, 4] (fun v r wr => ∃ (m : Nat) (out : List Nat), r = .int .i64 m ∧ Hid (Left n m out ∧ NoDiv m p) ∧ Hid (Ints wr B v (ints out)) ∧ Hid (Below B w2 wr)) (fun _ r _ => (intOf r).toNat)
      case atStart => exact ⟨m, out, rfl, L0, hI, hBl⟩
      case round =>
        obtain ⟨m', out', rfl, hL', hI', hBl'⟩ := hrel
        have q1 := hL'.out.1.1
        have q2 : m' ≤ 1000000 ∧ out'.length ≤ 1000000 := by have := hL'.out.1.2.1; omega
        have s2 : B ≤ wr.heap.size := by have := hBl'.out.size; omega
        have hlen' := ints_length out'
        have q3 := q2.1
        have q4 := q2.2
        by_cases hd : p ∣ m'
        · have hT : ((m' : Int) % (p : Int) == 0) = true := by rw [beq_iff_eq, ← Int.dvd_iff_emod_eq_zero]; exact Int.ofNat_dvd.2 hd
          have hmin := hL'.out.2.min p2 hd
          have L2 := Lib.hid (show Left n (m' / p) (out' ++ [p]) ∧ NoDiv (m' / p) p from ⟨left_step hL'.out.1 hmin, hL'.out.2.div hd⟩)
          obtain ⟨d1, d2, -⟩ := div_pos' q1 p2 hd
          have S1 := Lib.hid (ints_snoc out' p)
          have E1 := Lib.hid (show (m' : Int) / (p : Int) = ((m' / p : Nat) : Int) from (Int.natCast_ediv m' p).symm)
          clear hd hmin q2
          go_wp2_with (at_builtin; refine wpList_push wr (by rfl) _ _ (by rfl) B _ _ (by rfl) hI'.out p _ (by rfl) (by omega) s2 ?_; intro v' w3 hn hb; have HN' := Lib.hid hn; have HB2 := Lib.hid hb; clear hn hb)
          go_roundw
          case rel => exact ⟨m' / p, out' ++ [p], congrArg (Value.int .i64) E1.out, L2, by rw [S1.out]; exact HN', hBl'.out.trans HB2.out⟩
          case measure => rw [E1.out]; simp only [intOf, Int.toNat_natCast]; omega
        · have hT : ((m' : Int) % (p : Int) == 0) = false := by
            have : ¬ (p : Int) ∣ (m' : Int) := fun h => hd (Int.ofNat_dvd.1 h)
            rw [Int.dvd_iff_emod_eq_zero] at this
            simpa using this
          have L2 := Lib.hid (show Left n m' out' ∧ Tried D (j + 1) m' from ⟨hL'.out.1, tried_succ hjl (by rw [HP.out]; exact hL'.out.2.succ hd)⟩)
          clear hd q2
          go_wp2
          go_roundw
          case rel => exact ⟨j + 1, m', out', by omega, by go_num, rfl, L2, hI', hBl'⟩
          case measure => simp only [intOf]; omega
    · obtain rfl : j = len := by omega
      have hnd := Lib.hid (show NoDiv m D from tried_all (by rw [HN.out]; exact hL.out.2))
      have s1 : B ≤ wr.heap.size := by have := hBl.out.size; omega
      have q4 : out.length ≤ 1000000 ∧ m ≤ n := by have := hL.out.1.2.1; omega
      have q5 := q4.1
      have q6 := q4.2
      have m1 := hL.out.1.1
      have FB := Lib.hid (B2.out.trans (hBl.out.mono hB0))
      clear q4
      by_cases hm : 1 < m
      · have V := Lib.hid (left_prime hL.out.1 (hnd.out.prime hm (by have := HL.out.2.2; rw [HD.out] at this; omega)))
        have S1 := Lib.hid (ints_snoc out m)
        have hm' : (1 : Int) < (m : Int) := by omega
        have hlen' := ints_length out
        go_wp2_with (at_builtin; refine wpList_push wr (by rfl) _ _ (by rfl) B _ _ (by rfl) hI.out m _ (by rfl) (by omega) s1 ?_; intro v' w3 hn hb; have HN' := Lib.hid hn; have HB2 := Lib.hid hb; clear hn hb)
        go_ret
        exact ⟨_, rfl, _, V.out, by rw [S1.out]; exact Ints.mono HN'.out hB0, FB.out.trans (HB2.out.mono hB0)⟩
      · obtain rfl : m = 1 := by omega
        have V := Lib.hid (left_one hL.out.1)
        go_wp2
        go_ret
        exact ⟨_, rfl, _, V.out, hI.out.mono hB0, FB.out⟩
end Go.Proofs.Ytocjdjgfadaljaa
