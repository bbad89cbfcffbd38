/- ProductSquare: the numbers, the program. -/
import Derived.Test.YtkonddifmonkcaaFild
import Derived.Test.YtkonddifmonkcaaRds
import Derived.Deep.QuietTactic
import Derived.BigQuiet
namespace Go.Proofs.Ytkonddifmonkcaa
open Go.RowKit Go.Shelf
set_option linter.unusedVariables false

def prodF (m : Nat) (f g : Nat → Nat → Int) : Nat → Nat → Int := fun x y => (m : Int) * f (x / m) (y / m) + g (x % m) (y % m)
noncomputable def ProductSquare_0 (xss yss : List (List Int)) : List (List Int) :=
  if (sqB xss = true ∧ sqB yss = true) ∧ xss.length * yss.length ≤ 10 then gridL (xss.length * yss.length) (xss.length * yss.length) (prodF yss.length (cellF xss) (cellF yss)) else []
noncomputable def ProductSquare_1 (xss yss : List (List Int)) : Int := if sqB xss = true ∧ sqB yss = true then if xss.length * yss.length ≤ 10 then 0 else 2 else 1
theorem Prod_bad {xss yss : List (List Int)} (h : ¬ (sqB xss = true ∧ sqB yss = true)) : ProductSquare_0 xss yss = [] ∧ ProductSquare_1 xss yss = 1 := by
  unfold ProductSquare_0 ProductSquare_1
  rw [if_neg (fun k => h k.1), if_neg h]; exact ⟨rfl, rfl⟩
theorem Prod_far {xss yss : List (List Int)} (h : sqB xss = true ∧ sqB yss = true) (k : ¬ xss.length * yss.length ≤ 10) : ProductSquare_0 xss yss = [] ∧ ProductSquare_1 xss yss = 2 := by
  unfold ProductSquare_0 ProductSquare_1
  rw [if_neg (fun q => k q.2), if_pos h, if_neg k]; exact ⟨rfl, rfl⟩
theorem Prod_ok {xss yss : List (List Int)} (h : sqB xss = true ∧ sqB yss = true) (k : xss.length * yss.length ≤ 10) : ProductSquare_0 xss yss = gridL (xss.length * yss.length) (xss.length * yss.length) (prodF yss.length (cellF xss) (cellF yss)) ∧ ProductSquare_1 xss yss = 0 := by
  unfold ProductSquare_0 ProductSquare_1
  rw [if_pos ⟨h, k⟩, if_pos h, if_pos k]; exact ⟨rfl, rfl⟩
theorem lenProductSquare_0 (xss yss : List (List Int)) (hx : SmallLL xss) (hy : SmallLL yss) : (ProductSquare_0 xss yss).length + tot (ProductSquare_0 xss yss) ≤ 2000000 := by
  by_cases h : sqB xss = true ∧ sqB yss = true
  · by_cases k : xss.length * yss.length ≤ 10
    · rw [(Prod_ok h k).1, gridL_length, tot_gridL]
      have : xss.length * yss.length * (xss.length * yss.length) ≤ 10 * 10 := Nat.mul_le_mul k k
      omega
    · rw [(Prod_far h k).1]; decide
  · rw [(Prod_bad h).1]; decide
theorem div_lt' {x n m : Nat} (h : x < n * m) : x / m < n := Nat.div_lt_of_lt_mul (by rw [Nat.mul_comm]; exact h)

set_option maxRecDepth 100000 in
set_option maxHeartbeats 4000000 in
theorem iprodc (W : World) (bm bs bt n m : Nat) (f g : Nat → Nat → Int) (h1 : 1 ≤ m) (hn : n ≤ 10) (hm : m ≤ 10) (hb : W.cell? ⟨bm, 0, none⟩ = some (.int .i64 m)) (hf : SqAt W bs n f) (hg : SqAt W bt m g) (jf : InSq n f) (jg : InSq m g) (x y : Nat) (hx : x < n * m) (hy : y < n * m) :
    Calls Try.prog 59 #[.int .i64 x, .int .i64 y, .pointer (some ⟨bm, 0, none⟩), .pointer (some ⟨bs, 0, none⟩), .pointer (some ⟨bt, 0, none⟩)] W fun e W' => e = .returned (.int .i64 (prodF m f g x y)) ∧ Below W.heap.size W W' := by
  have e : prodF m f g x y = (m : Int) * f (x / m) (y / m) + g (x % m) (y % m) := rfl
  rw [e]
  have X1 := div_lt' hx
  have Y1 := div_lt' hy
  have P1 : x % m < m := Nat.mod_lt _ (by omega)
  have Q1 : y % m < m := Nat.mod_lt _ (by omega)
  have hx10 : x < 100 := Nat.lt_of_lt_of_le hx (Nat.mul_le_mul hn hm)
  have hy10 : y < 100 := Nat.lt_of_lt_of_le hy (Nat.mul_le_mul hn hm)
  have tx : (x : Int).tdiv (m : Int) = ((x / m : Nat) : Int) := by rw [Int.tdiv_eq_ediv_of_nonneg (by omega)]; exact (Int.natCast_ediv x m).symm
  have ty : (y : Int).tdiv (m : Int) = ((y / m : Nat) : Int) := by rw [Int.tdiv_eq_ediv_of_nonneg (by omega)]; exact (Int.natCast_ediv y m).symm
  have dx : (x : Int) / (m : Int) = ((x / m : Nat) : Int) := (Int.natCast_ediv x m).symm
  have dy : (y : Int) / (m : Int) = ((y / m : Nat) : Int) := (Int.natCast_ediv y m).symm
  have ux : (x : Int).tmod (m : Int) = ((x % m : Nat) : Int) := by rw [Int.tmod_eq_emod_of_nonneg (by omega)]; exact (Int.natCast_emod x m).symm
  have uy : (y : Int).tmod (m : Int) = ((y % m : Nat) : Int) := by rw [Int.tmod_eq_emod_of_nonneg (by omega)]; exact (Int.natCast_emod y m).symm
  have mx : (x : Int) % (m : Int) = ((x % m : Nat) : Int) := (Int.natCast_emod x m).symm
  have my : (y : Int) % (m : Int) = ((y % m : Nat) : Int) := (Int.natCast_emod y m).symm
  obtain ⟨X, hX⟩ : ∃ X, x / m = X := ⟨_, rfl⟩
  obtain ⟨Y, hY⟩ : ∃ Y, y / m = Y := ⟨_, rfl⟩
  obtain ⟨P, hP⟩ : ∃ P, x % m = P := ⟨_, rfl⟩
  obtain ⟨Q, hQ⟩ : ∃ Q, y % m = Q := ⟨_, rfl⟩
  rw [hX] at tx dx X1 ⊢
  rw [hY] at ty dy Y1 ⊢
  rw [hP] at ux mx P1 ⊢
  rw [hQ] at uy my Q1 ⊢
  have c1 := Ia.cell hf (1 + X * 10 + Y) (by omega)
  rw [sqC_at _ _ (by omega)] at c1
  have c2 := Ia.cell hg (1 + P * 10 + Q) (by omega)
  rw [sqC_at _ _ (by omega)] at c2
  have ju := jf X Y X1 Y1
  have jv := jg P Q P1 Q1
  obtain ⟨u, hu⟩ : ∃ u, f X Y = u := ⟨_, rfl⟩
  obtain ⟨v, hv⟩ : ∃ v, g P Q = v := ⟨_, rfl⟩
  rw [hu] at c1 ju ⊢
  rw [hv] at c2 jv ⊢
  have mu0 : 0 ≤ (m : Int) * u := Int.mul_nonneg (by omega) ju.1
  have mu1 : (m : Int) * u ≤ 10 * 10 := Int.mul_le_mul (by omega) (by omega) ju.1 (by omega)
  obtain ⟨M, hM⟩ : ∃ M, (m : Int) * u = M := ⟨_, rfl⟩
  rw [hM] at mu0 mu1 ⊢
  have z1 : ¬ (m : Int) = 0 := by omega
  have z2 : ((m : Int) == 0) = false := by simp; omega
  have z3 : ¬ m = 0 := by omega
  have z4 : (m == 0) = false := by simp; omega
  have a1 := IntWalk.i64_in (X : Int) (by omega)
  have a2 := IntWalk.i64_in (Y : Int) (by omega)
  have a3 := IntWalk.i64_in (P : Int) (by omega)
  have a4 := IntWalk.i64_in (Q : Int) (by omega)
  have a5 := IntWalk.i64_in M (by omega)
  have a6 := IntWalk.i64_in (M + v) (by omega)
  have X0 : (0 : Int) ≤ (X : Int) := by omega
  have Y0 : (0 : Int) ≤ (Y : Int) := by omega
  have P0 : (0 : Int) ≤ (P : Int) := by omega
  have Q0 : (0 : Int) ≤ (Q : Int) := by omega
  have X2 : (X : Int) < 10 := by omega
  have Y2 : (Y : Int) < 10 := by omega
  have P2 : (P : Int) < 10 := by omega
  have Q2 : (Q : Int) < 10 := by omega
  clear hX hY hP hQ hu hv hf hg jf jg e hx hy
  go_enter Try.func59, Try.ntmps59
  go_wp2
  go_quiet (fail)
  go_wp2
  go_ret
  exact ⟨rfl, below_drewN (Below.refl _ _) _⟩
end Go.Proofs.Ytkonddifmonkcaa
