/- IntercalatesOf, SwitchIntercalate: the model's test. -/
import Derived.Test.YtodlcjdbpibacaaMvd
import Derived.Test.YtodlcjdbpibacaaSet
namespace Go.Proofs.Ytodlcjdbpibacaa
open Go.RowKit Go.Shelf
set_option linter.unusedVariables false

/-- Two rows and two columns of an intercalate. -/
noncomputable def icB (n : Nat) (F : Nat → Nat → Int) (x0 x1 x2 x3 : Int) : Bool :=
  risesB 0 ((n : Int) - 1) [x0, x1] && (risesB 0 ((n : Int) - 1) [x2, x3] && (F x0.toNat x2.toNat == F x1.toNat x3.toNat && F x0.toNat x3.toNat == F x1.toNat x2.toNat))
theorem rises2 {n : Nat} {a b : Int} (h : risesB 0 ((n : Int) - 1) [a, b] = true) : (0 ≤ a ∧ a < n) ∧ (0 ≤ b ∧ b < n) := by
  have p := of_risesB h 0 (show 0 < 2 by decide)
  have q := of_risesB h 1 (show 1 < 2 by decide)
  have p1 : 0 ≤ a := p.1
  have p2 : a ≤ (n : Int) - 1 := p.2.1
  have q1 : 0 ≤ b := q.1
  have q2 : b ≤ (n : Int) - 1 := q.2.1
  omega

set_option maxRecDepth 100000 in
set_option maxHeartbeats 8000000 in
theorem sIcl (W : World) (v : Value) (xss : List (List Int)) (hp : IsSq xss) (hv : RowsAt W v xss) (b o cp : Nat) (x0 x1 x2 x3 : Int) (hcp : 4 ≤ cp)
    (e0 : W.cell? ⟨b, o + 0, none⟩ = some (.int .i64 x0)) (e1 : W.cell? ⟨b, o + 1, none⟩ = some (.int .i64 x1)) (e2 : W.cell? ⟨b, o + 2, none⟩ = some (.int .i64 x2)) (e3 : W.cell? ⟨b, o + 3, none⟩ = some (.int .i64 x3)) :
    Calls Try.prog 16 #[v, .slice (some ⟨b, o, none⟩) 4 cp] W fun e w' => e = .returned (.bool (icB xss.length (cellF xss) x0 x1 x2 x3)) ∧ Below W.heap.size W w' := by
  have nhi := hp.hi
  have nlo := hp.lo
  have RL := hp.rowLen
  have hml := hv.1
  have I1 : IntsAt W (.slice (some ⟨b, o, none⟩) 2 cp) [x0, x1] := ⟨(show 2 ≤ 9223372036854775807 by decide), .inr ⟨b, o, cp, rfl, fun j hj => by
    match j, hj with
    | 0, _ => exact e0
    | 1, _ => exact e1⟩⟩
  have I2 : IntsAt W (.slice (some ⟨b, o + 2, none⟩) 2 (cp - 2)) [x2, x3] := ⟨(show 2 ≤ 9223372036854775807 by decide), .inr ⟨b, o + 2, cp - 2, rfl, fun j hj => by
    match j, hj with
    | 0, _ => exact e2
    | 1, _ => exact e3⟩⟩
  rw [Nat.add_zero] at e0
  have E : Hid (icB xss.length (cellF xss) x0 x1 x2 x3 = (risesB 0 ((xss.length : Int) - 1) [x0, x1] && (risesB 0 ((xss.length : Int) - 1) [x2, x3] && (cellF xss x0.toNat x2.toNat == cellF xss x1.toNat x3.toNat && cellF xss x0.toNat x3.toNat == cellF xss x1.toNat x2.toNat)))) := rfl
  obtain ⟨V, hV⟩ : ∃ V, icB xss.length (cellF xss) x0 x1 x2 x3 = V := ⟨_, rfl⟩
  rw [hV] at E ⊢
  obtain ⟨n, hn⟩ : ∃ n, xss.length = n := ⟨_, rfl⟩
  rw [hn] at E nhi nlo RL hml
  obtain ⟨g, off, vk, rfl, K⟩ := hv.look2 hn RL nlo
  have HK := Lib.hid (fun X hX => K W (Below.refl _ _) X hX)
  have w1n := IntWalk.i64_in ((n : Int) - 1) (by omega)
  have HR := Lib.hid (srises W _ [x0, x1] 0 ((n : Int) - 1) I1)
  have HT := Lib.hid (fun k => srises (W.drewN k) _ [x2, x3] 0 ((n : Int) - 1) (I2.drewN k))
  have R1 := Lib.hid (fun h => rises2 (n := n) (a := x0) (b := x1) h)
  have R2 := Lib.hid (fun h => rises2 (n := n) (a := x2) (b := x3) h)
  obtain ⟨F, hF⟩ : ∃ F, cellF xss = F := ⟨_, rfl⟩
  rw [hF] at E HK
  obtain ⟨r1, hr1⟩ : ∃ r, risesB 0 ((n : Int) - 1) [x0, x1] = r := ⟨_, rfl⟩
  obtain ⟨r2, hr2⟩ : ∃ r, risesB 0 ((n : Int) - 1) [x2, x3] = r := ⟨_, rfl⟩
  rw [hr1] at HR E R1
  simp only [hr2] at HT E R2
  have c1 : 2 ≤ cp := by omega
  have c2 : 4 ≤ cp := hcp
  have HCp := Lib.hid hcp
  clear hp hv hV K hr1 hr2 hF hn RL I1 I2 hcp
  go_enter Try.func16, Try.ntmps16
  go_wp2_with fail
  refine HR.out.mono ?_
  rintro e w2 ⟨rfl, k2, rfl⟩
  cases r1 with
  | false =>
    have V2 : Hid (V = false) := by have := E.out; rwa [Bool.false_and] at this
    go_wp2
    go_ret
    exact ⟨by rw [V2.out]; rfl, by first | exact Go.below_drewN (Below.refl _ _) _ | exact Go.below_drewN (Go.below_drewN (Below.refl _ _) _) _⟩
  | true =>
    obtain ⟨⟨a0, a1⟩, a2, a3⟩ := R1.out rfl
    go_wp2_with fail
    refine (HT.out _).mono ?_
    rintro e w3 ⟨rfl, k3, rfl⟩
    cases r2 with
    | false =>
      have V2 : Hid (V = false) := by have := E.out; rwa [Bool.true_and, Bool.false_and] at this
      go_wp2
      go_ret
      exact ⟨by rw [V2.out]; rfl, by first | exact Go.below_drewN (Below.refl _ _) _ | exact Go.below_drewN (Go.below_drewN (Below.refl _ _) _) _⟩
    | true =>
      obtain ⟨⟨b0, b1⟩, b2, b3⟩ := R2.out (by trivial)
      have V2 : Hid (V = (F x0.toNat x2.toNat == F x1.toNat x3.toNat && F x0.toNat x3.toNat == F x1.toNat x2.toNat)) := by have := E.out; rwa [Bool.true_and, Bool.true_and] at this
      clear HR HT R1 R2 E
      obtain ⟨r, rfl⟩ : ∃ r : Nat, x0 = r := ⟨x0.toNat, by omega⟩
      obtain ⟨s, rfl⟩ : ∃ r : Nat, x1 = r := ⟨x1.toNat, by omega⟩
      obtain ⟨c, rfl⟩ : ∃ r : Nat, x2 = r := ⟨x2.toNat, by omega⟩
      obtain ⟨d, rfl⟩ : ∃ r : Nat, x3 = r := ⟨x3.toNat, by omega⟩
      simp only [Int.toNat_natCast] at V2
      have rn : r < n := by omega
      have sn : s < n := by omega
      have cn : c < n := by omega
      have dn : d < n := by omega
      obtain ⟨g1, o1, k1, m1, m1'⟩ := HK.out r rn
      obtain ⟨g2, o2, k2', m2, m2'⟩ := HK.out s sn
      have p1 := m1' c cn
      have p2 := m1' d dn
      have p3 := m2' c cn
      have p4 := m2' d dn
      obtain ⟨u1, h1⟩ : ∃ u, F r c = u := ⟨_, rfl⟩
      obtain ⟨u2, h2⟩ : ∃ u, F s d = u := ⟨_, rfl⟩
      obtain ⟨u3, h3⟩ : ∃ u, F r d = u := ⟨_, rfl⟩
      obtain ⟨u4, h4⟩ : ∃ u, F s c = u := ⟨_, rfl⟩
      rw [h1] at p1
      rw [h3] at p2
      rw [h4] at p3
      rw [h2] at p4
      rw [h1, h2, h3, h4] at V2
      obtain ⟨t1, f1⟩ : ∃ t, (u1 == u2) = t := ⟨_, rfl⟩
      obtain ⟨t2, f2⟩ : ∃ t, (u3 == u4) = t := ⟨_, rfl⟩
      rw [f1, f2] at V2
      clear m1' m2' h1 h2 h3 h4 HK
      cases t1 <;> cases t2 <;> (go_wp2; go_quiet (fail); go_wp2; go_ret; exact ⟨by rw [V2.out]; rfl, by first | exact Go.below_drewN (Below.refl _ _) _ | exact Go.below_drewN (Go.below_drewN (Below.refl _ _) _) _⟩)
end Go.Proofs.Ytodlcjdbpibacaa
