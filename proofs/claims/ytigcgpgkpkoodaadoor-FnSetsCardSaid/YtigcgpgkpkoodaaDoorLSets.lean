/- The law of sets. -/
import Derived.Test.YtigcgpgkpkoodaaDoorDs
namespace Go.Proofs.YtigcgpgkpkoodaaDoor
open Go.RowKit
set_option linter.unusedVariables false

theorem fls_getElem_lt (q : Nat) (P : Nat → Bool) : ∀ z ∈ fls q P, 0 ≤ z ∧ z < q := fun z hz => by
  obtain ⟨n, h1, _, rfl⟩ := (fls_mem q P z).1 hz
  omega
theorem fls_rises (P : Nat → Bool) : Rises 0 31 (fls 32 P) := by
  have pw := List.pairwise_iff_getElem.1 (fls_sorted P 32)
  intro i hi
  have hb := fls_getElem_lt 32 P _ (List.getElem_mem hi)
  refine ⟨?_, ?_, fun h0 => ?_⟩
  · simp only [List.getD, List.getElem?_eq_getElem hi, Option.getD_some]; omega
  · simp only [List.getD, List.getElem?_eq_getElem hi, Option.getD_some]; omega
  · have := pw (i - 1) i (by omega) hi (by omega)
    simp only [List.getD, List.getElem?_eq_getElem hi, List.getElem?_eq_getElem (show i - 1 < (fls 32 P).length by omega), Option.getD_some]
    exact this
theorem fls_valid (P : Nat → Bool) : validSet (fls 32 P) 32 = true := by
  rw [valid32]; exact risesB_true (fls_rises P)
theorem fls_dec (P : Nat → Bool) (n : Nat) (h : n < 32) : decide ((n : Int) ∈ fls 32 P) = P n := by
  cases e : P n with
  | true => exact decide_eq_true ((fls_mem 32 P n).2 ⟨n, h, e, rfl⟩)
  | false => exact decide_eq_false (fun hm => by
      obtain ⟨m, _, h2, h3⟩ := (fls_mem 32 P n).1 hm
      have : n = m := by omega
      subst this
      rw [e] at h2; cases h2)
theorem fls_two (P Q : Nat → Bool) : ∀ q, (fls q (fun n => P n || Q n)).length + (fls q (fun n => P n && Q n)).length = (fls q P).length + (fls q Q).length
  | 0 => rfl
  | q + 1 => by
    have ih := fls_two P Q q
    rw [fls_succ, fls_succ, fls_succ, fls_succ]
    simp only [List.length_append]
    cases P q <;> cases Q q <;> simp <;> omega
theorem cmb_valid (op : Bool → Bool → Bool) {xs ys : List Int} (hx : validSet xs 32 = true) (hy : validSet ys 32 = true) : cmbA op xs ys = fls 32 (fun n => op (decide ((n : Int) ∈ xs)) (decide ((n : Int) ∈ ys))) := by
  unfold cmbA; rw [hx, hy]; rfl
theorem cmb_not (op : Bool → Bool → Bool) {xs ys : List Int} (h : (validSet xs 32 && validSet ys 32) = false) : cmbA op xs ys = [] := by
  unfold cmbA; rw [h]; rfl
/-- What the law asks of two sets. -/
theorem set_laws {xs ys : List Int} (hx : validSet xs 32 = true) (hy : validSet ys 32 = true) :
    (∀ op : Bool → Bool → Bool, validSet (cmbA op xs ys) 32 = true) ∧
    (cmbA (fun a b => a || b) xs ys).length + (cmbA (fun a b => a && b) xs ys).length = xs.length + ys.length ∧
    cmbA (fun a b => a || b) (cmbA (fun a b => a && b) xs ys) (cmbA (fun a b => a && !b) xs ys) = xs ∧
    cmbA (fun a b => a && b) (cmbA (fun a b => a && !b) xs ys) ys = [] ∧
    cmbA (fun a b => a || b) (cmbA (fun a b => a && !b) xs ys) ys = cmbA (fun a b => a || b) xs ys ∧
    cmbA (fun a b => a && !b) (cmbA (fun a b => a || b) xs ys) ys = cmbA (fun a b => a && !b) xs ys := by
  have ex := set_fls (valid_rises hx)
  have ey := set_fls (valid_rises hy)
  have V : ∀ op : Bool → Bool → Bool, validSet (cmbA op xs ys) 32 = true := fun op => by rw [cmb_valid op hx hy]; exact fls_valid _
  refine ⟨V, ?_, ?_, ?_, ?_, ?_⟩
  · rw [cmb_valid _ hx hy, cmb_valid _ hx hy, fls_two, ← ex, ← ey]
  · rw [cmb_valid _ (V _) (V _), cmb_valid _ hx hy, cmb_valid _ hx hy]
    conv => rhs; rw [ex]
    refine fls_congr _ _ _ fun n hn => ?_
    rw [fls_dec _ n hn, fls_dec _ n hn]
    cases decide ((n : Int) ∈ xs) <;> cases decide ((n : Int) ∈ ys) <;> rfl
  · rw [cmb_valid _ (V _) hy, cmb_valid _ hx hy]
    have : fls 32 (fun _ => false) = [] := rfl
    rw [← this]
    refine fls_congr _ _ _ fun n hn => ?_
    rw [fls_dec _ n hn]
    cases decide ((n : Int) ∈ xs) <;> cases decide ((n : Int) ∈ ys) <;> rfl
  · rw [cmb_valid _ (V _) hy, cmb_valid _ hx hy, cmb_valid _ hx hy]
    refine fls_congr _ _ _ fun n hn => ?_
    rw [fls_dec _ n hn]
    cases decide ((n : Int) ∈ xs) <;> cases decide ((n : Int) ∈ ys) <;> rfl
  · rw [cmb_valid _ (V _) hy, cmb_valid _ hx hy, cmb_valid _ hx hy]
    refine fls_congr _ _ _ fun n hn => ?_
    rw [fls_dec _ n hn]
    cases decide ((n : Int) ∈ xs) <;> cases decide ((n : Int) ∈ ys) <;> rfl

/-- Slices that read alike. -/
theorem nums_same (w : World) (u v : Value) (xs : List Int) (hu : IntsAt w u xs) (hv : IntsAt w v xs) :
    Calls Tryd.prog 25 #[u, v] w fun e w' => e = .returned (.bool true) ∧ ∃ n, w' = w.drewN n := by
  obtain ⟨m, hm⟩ : ∃ m, xs.length = m := ⟨_, rfl⟩
  have part : ∀ {v : Value}, IntsAt w v xs → ∃ a cap, v = .slice a m cap ∧ ∀ j, j < m → ∃ g off, a = some ⟨g, off, none⟩ ∧ w.cell? ⟨g, off + j, none⟩ = some (.int .i64 (xs.getD j 0)) := fun {v} hv => by
    obtain ⟨_, ⟨rfl, a, cap, rfl⟩ | ⟨g, off, cap, rfl, hc⟩⟩ := hv
    · rw [← hm]; exact ⟨a, cap, rfl, fun j hj => by simp at hj⟩
    · rw [hm]; exact ⟨_, cap, rfl, fun j hj => ⟨g, off, rfl, hc j (by omega)⟩⟩
  obtain ⟨a, cap, rfl, hc⟩ := part hu
  obtain ⟨b, capb, rfl, hd⟩ := part hv
  have hml : m ≤ 9223372036854775807 := by rw [← hm]; exact hv.1
  have HC := Lib.hid hc
  have HD := Lib.hid hd
  have t : ((m : Int) != (m : Int)) = false := by simp
  clear hc hd hu hv part hm
  go_enter Tryd.func25, Tryd.ntmps25
  go_wp2
  go_loopw [5] (fun i wr => ∃ j : Nat, j ≤ m ∧ i = .int .i64 j ∧ ∃ d, wr = w.drewN d) (fun i _ => m - (intOf i).toNat)
  case atStart => exact ⟨0, by omega, rfl, 0, rfl⟩
  case round =>
    obtain ⟨j, hj, rfl, d, rfl⟩ := hrel
    by_cases c : j < m
    · have g1 : decide (j < m) = true := by simpa using c
      obtain ⟨g, off, rfl, c1⟩ := HC.out j c
      obtain ⟨g', off', rfl, c2⟩ := HD.out j c
      obtain ⟨x, hx⟩ : ∃ x, xs.getD j 0 = x := ⟨_, rfl⟩
      rw [hx] at c1 c2
      have j0 : (0 : Int) ≤ (j : Int) := by omega
      have j1 : (j : Int) < (m : Int) := by omega
      have w3 := wrapk (n := (j : Int) + 1) (by omega)
      have t2 : (x != x) = false := by simp
      clear hx
      go_wp2
      go_quiet (fail)
      go_wp2
      go_roundw
      case rel => exact ⟨j + 1, by omega, by go_num, _, rfl⟩
      case measure => simp [intOf]; omega
    · have g1 : decide (j < m) = false := by simpa using c
      go_wp2
      go_ret
      exact ⟨rfl, _, rfl⟩
end Go.Proofs.YtigcgpgkpkoodaaDoor
