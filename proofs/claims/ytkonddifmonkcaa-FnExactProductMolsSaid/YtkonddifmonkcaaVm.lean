/- ValidMols: both sides. -/
import Derived.Test.YtkonddifmonkcaaRss
import Derived.Test.YtkonddifmonkcaaOrs
import Derived.Test.YtkonddifmonkcaaOvx
import Derived.Test.YtkonddifmonkcaaSqv
import Derived.Deep.RegionHeld3
namespace Go.Proofs.Ytkonddifmonkcaa
open Go.RowKit
set_option linter.unusedVariables false

def okMol (q : List (List (List Int))) (i : Nat) : Prop := sqB (q.getD i []) = true ∧ ∀ k, k < i → Orthogonal_0 (q.getD k []) (q.getD i []) = true
def VMols (q : List (List (List Int))) : Prop := (1 ≤ q.length ∧ q.length ≤ 10) ∧ ∀ i, i < q.length → okMol q i
noncomputable def ValidMols_0 (q : List (List (List Int))) : Bool := @decide (VMols q) (Classical.propDecidable _)
theorem vm_true {q : List (List (List Int))} (h : VMols q) : ValidMols_0 q = true := @decide_eq_true _ (Classical.propDecidable _) h
theorem vm_false {q : List (List (List Int))} (h : ¬ VMols q) : ValidMols_0 q = false := @decide_eq_false _ (Classical.propDecidable _) h
theorem of_vm {q : List (List (List Int))} (h : ValidMols_0 q = true) : VMols q := @of_decide_eq_true _ (Classical.propDecidable _) h
theorem Orth_sq' {xss yss : List (List Int)} (h : Orthogonal_0 xss yss = true) : xss.length = yss.length := by
  by_cases k : (sqB xss = true ∧ sqB yss = true) ∧ xss.length = yss.length
  · exact k.2
  · rw [Orth_no k] at h; cases h

set_option maxRecDepth 100000 in
set_option maxHeartbeats 8000000 in
theorem sVm (w : World) (v : Value) (q : List (List (List Int))) (hv : QAt w v q) :
    Calls Try.prog 43 #[v] w fun e w' => e = .returned (.bool (ValidMols_0 q)) ∧ Below w.heap.size w w' := by
  have hml := hv.1
  obtain ⟨a, cap, rfl, hcap, hc⟩ := hv.shape
  by_cases hn : 1 ≤ q.length ∧ q.length ≤ 10
  case neg =>
    have V : Hid (ValidMols_0 q = false) := vm_false fun k => hn k.1
    obtain ⟨n, hn'⟩ : ∃ n, q.length = n := ⟨_, rfl⟩
    rw [hn'] at hn hml ⊢
    by_cases c : n < 1
    · have t1 : decide ((n : Int) < 1) = true := decide_eq_true (by omega)
      have t1' : decide (n < 1) = true := decide_eq_true (by omega)
      clear hv hc hn hn' hcap
      go_enter Try.func43, Try.ntmps43
      go_wp2
      go_ret
      exact ⟨by rw [V.out]; rfl, Below.refl _ _⟩
    · have t1 : decide ((n : Int) < 1) = false := decide_eq_false (by omega)
      have t1' : decide (n < 1) = false := decide_eq_false (by omega)
      have t2 : decide ((10 : Int) < (n : Int)) = true := decide_eq_true (by omega)
      have t2' : decide (10 < n) = true := decide_eq_true (by omega)
      clear hv hc hn hn' hcap
      go_enter Try.func43, Try.ntmps43
      go_wp2
      go_ret
      exact ⟨by rw [V.out]; rfl, Below.refl _ _⟩
  obtain ⟨lo, hi⟩ := hn
  have YES : Hid ((∀ k, k < q.length → okMol q k) → ValidMols_0 q = true) := fun h => vm_true ⟨⟨lo, hi⟩, h⟩
  have NO : Hid (∀ k, k < q.length → ¬ okMol q k → ValidMols_0 q = false) := fun k hk h => vm_false fun x => h (x.2 k hk)
  have HC := Lib.hid hc
  have H0 := Lib.hid (hc 0 (by omega))
  obtain ⟨n, hn⟩ : ∃ n, q.length = n := ⟨_, rfl⟩
  rw [hn] at HC YES NO lo hi hcap hml ⊢
  have t1 : decide ((n : Int) < 1) = false := decide_eq_false (by omega)
  have t1' : decide (n < 1) = false := decide_eq_false (by omega)
  have t2 : decide ((10 : Int) < (n : Int)) = false := decide_eq_false (by omega)
  have t2' : decide (10 < n) = false := decide_eq_false (by omega)
  clear hv hc hn
  have n0 : (0 : Int) < (n : Int) := by omega
  have n0' : 0 < n := by omega
  obtain ⟨g, off, u0, rfl, hg, c0, hu0⟩ := H0.out
  obtain ⟨za, zc, rfl, -⟩ := hu0.shape
  rw [Nat.add_zero] at c0
  have l00 := hu0.1
  obtain ⟨l0, hl0⟩ : ∃ l, (q.getD 0 []).length = l := ⟨_, rfl⟩
  rw [hl0] at c0 l00
  have C0 := Lib.hid c0
  have HL0 := Lib.hid hl0
  clear hu0 H0 c0 hl0
  go_enter Try.func43, Try.ntmps43
  go_wp2
  go_loopw [3] (fun i wr => ∃ j : Nat, j ≤ n ∧ i = .int .i64 j ∧ Hid (∀ k, k < j → okMol q k) ∧ Hid (Below w.heap.size w wr)) (fun i _ => n - (intOf i).toNat)
  case atStart => exact ⟨0, by omega, rfl, fun k hk => by omega, Below.refl _ _⟩
  case round =>
    obtain ⟨j, hj, rfl, hO, hBl⟩ := hrel
    by_cases c : j < n
    · have k1 : decide (j < n) = true := by simpa using c
      have k1' : decide ((j : Int) < (n : Int)) = true := decide_eq_true (by omega)
      have wx3 := IntWalk.i64_in ((j : Int) + 1) (by omega)
      have j0 : (0 : Int) ≤ (j : Int) := by omega
      have j1 : (j : Int) < (n : Int) := by omega
      obtain ⟨g', off', x, e0, hg', cj, hx⟩ := HC.out j c
      simp only [Option.some.injEq, Addr.mk.injEq] at e0
      obtain ⟨rfl, rfl, -⟩ := e0
      obtain ⟨xa, xc, rfl, -⟩ := hx.shape
      have HX := Lib.hid hx
      have HS := Lib.hid (fun W (b : Below w.heap.size w W) => sSq W _ _ (hx.below b (Nat.le_refl _)))
      have NJ := Lib.hid (NO.out j c)
      have lx := hx.1
      obtain ⟨b, hb⟩ : ∃ b, sqB (q.getD j []) = b := ⟨_, rfl⟩
      simp only [hb] at HS
      obtain ⟨l, hl⟩ : ∃ l, (q.getD j []).length = l := ⟨_, rfl⟩
      have HLJ := Lib.hid hl
      rw [hl] at cj HS lx
      have KEY : Hid (∀ W : World, Hid (Below w.heap.size w W) → W.cell? ⟨g, off + j, none⟩ = some (.slice xa l xc) ∧ W.cell? ⟨g, off, none⟩ = some (.slice za l0 zc) ∧ Hid (Below w.heap.size w W)) := fun W hW =>
        ⟨(hW.out.cell (p := ⟨g, off + j, none⟩) hg).trans cj, (hW.out.cell (p := ⟨g, off, none⟩) hg).trans C0.out, hW⟩
      have XD : Hid (Below w.heap.size w wr.drew) := hBl.out.drew
      have HK := KEY.out _ XD
      clear hx cj hl
      cases b with
      | false =>
        have V := Lib.hid (NJ.out (fun h => by rw [h.1] at hb; cases hb))
        clear hb NJ
        go_wp2
        refine wp_region_held_drew (S := fun W => W.cell? ⟨g, off + j, none⟩ = some (.slice xa l xc) ∧ W.cell? ⟨g, off, none⟩ = some (.slice za l0 zc) ∧ Hid (Below w.heap.size w W)) (by kernel_rfl) HK (fun hHeld => ?_)
        refine wpAnyH_take (i := 0) (oi := { dst := some 19, op := Op.move (Operand.tmp 0), type := 26, pos := "l07_orthogonal.go:93", after := #[], guard := none }) (v := ?_) rfl (by kernel_rfl) (by kernel_rfl) (by kernel_rfl) (fun _ _ _ h => h) (Or.inl ⟨by rfl, ?_⟩) (by assumption) ?_
        rotate_left
        · intro w hSw; (try dsimp only at hSw); go_simp
          try with_reducible rfl
        simp only [Act.put, List.setIfInBounds_toArray, List.set_cons_zero, List.set_cons_succ]
        refine wpAnyH_take (i := 1) (oi := { dst := some 20, op := Op.move (Operand.tmp 3), type := 3, pos := "l07_orthogonal.go:93", after := #[], guard := none }) (v := ?_) rfl (by kernel_rfl) (by kernel_rfl) (by kernel_rfl) (fun _ _ _ h => h) (Or.inl ⟨by rfl, ?_⟩) (by assumption) ?_
        rotate_left
        · intro w hSw; (try dsimp only at hSw); go_simp
          try with_reducible rfl
        simp only [Act.put, List.setIfInBounds_toArray, List.set_cons_zero, List.set_cons_succ]
        refine wpAnyH_take (i := 2) (oi := { dst := some 21, op := Op.indexAddr 26 (Operand.tmp 19) (Operand.tmp 20), type := 0, pos := "l07_orthogonal.go:93", after := #[{ on := 0, ground := Ground.data }, { on := 1, ground := Ground.data }], guard := none }) (v := ?_) rfl (by kernel_rfl) (by kernel_rfl) (by kernel_rfl) (fun _ _ _ h => h) (Or.inl ⟨by rfl, ?_⟩) (by assumption) ?_
        rotate_left
        · intro w hSw; (try dsimp only at hSw); go_simp
          try with_reducible rfl
        simp only [Act.put, List.setIfInBounds_toArray, List.set_cons_zero, List.set_cons_succ]
        refine wpAnyH_take (i := 3) (oi := { dst := some 22, op := Op.load 22 (Operand.tmp 21), type := 22, pos := "l07_orthogonal.go:93", after := #[{ on := 2, ground := Ground.data }], guard := none }) (v := ?_) rfl (by kernel_rfl) (by kernel_rfl) (by kernel_rfl) (fun _ _ _ h => h) (Or.inl ⟨by rfl, ?_⟩) (by assumption) ?_
        rotate_left
        · intro w hSw; (try dsimp only at hSw); go_simp
          try with_reducible rfl
        simp only [Act.put, List.setIfInBounds_toArray, List.set_cons_zero, List.set_cons_succ]
        refine wpAnyH_ready (rs := [4]) (by kernel_rfl) (by simp) ?_
        refine AllReadyH.cons rfl (fun K hK => ?_) AllReadyH.nil
        go_simp
        go_wp2_with fail
        refine (HS.out _ XD.out).mono ?_
        rintro e w4 ⟨rfl, b4⟩
        have X4 := Lib.hid (t_chain XD.out b4)
        clear b4
        refine hK.out _ _ (KEY.out _ X4) (fun hHeld => ?_)
        clear hK K
        refine wpAnyH_take (i := 5) (oi := { dst := some 24, op := Op.unOp UnOp.not 4 (Operand.tmp 23), type := 4, pos := "l07_orthogonal.go:93", after := #[{ on := 4, ground := Ground.data }], guard := none }) (v := ?_) rfl (by kernel_rfl) (by kernel_rfl) (by kernel_rfl) (fun _ _ _ h => h) (Or.inl ⟨by rfl, ?_⟩) (by assumption) ?_
        rotate_left
        · intro w hSw; (try dsimp only at hSw); go_simp
          try with_reducible rfl
        simp only [Act.put, List.setIfInBounds_toArray, List.set_cons_zero, List.set_cons_succ]
        refine wpAnyH_take (i := 6) (oi := { dst := some 25, op := Op.move (Operand.tmp 24), type := 4, pos := "l07_orthogonal.go:93", after := #[{ on := 5, ground := Ground.data }, { on := 4, ground := Ground.chain }], guard := none }) (v := ?_) rfl (by kernel_rfl) (by kernel_rfl) (by kernel_rfl) (fun _ _ _ h => h) (Or.inl ⟨by rfl, ?_⟩) (by assumption) ?_
        rotate_left
        · intro w hSw; (try dsimp only at hSw); go_simp
          try with_reducible rfl
        simp only [Act.put, List.setIfInBounds_toArray, List.set_cons_zero, List.set_cons_succ]
        refine wpAnyH_take (i := 7) (oi := { dst := some 26, op := Op.move (Operand.tmp 0), type := 26, pos := "l07_orthogonal.go:93", after := #[{ on := 6, ground := Ground.guard }], guard := some (6, false) }) (v := undef) rfl (by kernel_rfl) (by kernel_rfl) (by kernel_rfl) (fun _ _ _ h => h) (Or.inr ⟨by rfl, rfl⟩) (by assumption) ?_
        simp only [Act.put, List.setIfInBounds_toArray, List.set_cons_zero, List.set_cons_succ]
        refine wpAnyH_take (i := 8) (oi := { dst := some 27, op := Op.move (Operand.tmp 3), type := 3, pos := "l07_orthogonal.go:93", after := #[{ on := 6, ground := Ground.guard }], guard := some (6, false) }) (v := undef) rfl (by kernel_rfl) (by kernel_rfl) (by kernel_rfl) (fun _ _ _ h => h) (Or.inr ⟨by rfl, rfl⟩) (by assumption) ?_
        simp only [Act.put, List.setIfInBounds_toArray, List.set_cons_zero, List.set_cons_succ]
        refine wpAnyH_take (i := 9) (oi := { dst := some 28, op := Op.indexAddr 26 (Operand.tmp 26) (Operand.tmp 27), type := 0, pos := "l07_orthogonal.go:93", after := #[{ on := 7, ground := Ground.data }, { on := 8, ground := Ground.data }, { on := 6, ground := Ground.guard }], guard := some (6, false) }) (v := undef) rfl (by kernel_rfl) (by kernel_rfl) (by kernel_rfl) (fun _ _ _ h => h) (Or.inr ⟨by rfl, rfl⟩) (by assumption) ?_
        simp only [Act.put, List.setIfInBounds_toArray, List.set_cons_zero, List.set_cons_succ]
        refine wpAnyH_take (i := 10) (oi := { dst := some 29, op := Op.load 22 (Operand.tmp 28), type := 22, pos := "l07_orthogonal.go:93", after := #[{ on := 9, ground := Ground.data }, { on := 6, ground := Ground.guard }], guard := some (6, false) }) (v := undef) rfl (by kernel_rfl) (by kernel_rfl) (by kernel_rfl) (fun _ _ _ h => h) (Or.inr ⟨by rfl, rfl⟩) (by assumption) ?_
        simp only [Act.put, List.setIfInBounds_toArray, List.set_cons_zero, List.set_cons_succ]
        refine wpAnyH_take (i := 11) (oi := { dst := some 30, op := Op.call { callee := Callee.builtin Builtin.len, args := #[Operand.tmp 29], argTypes := #[22] }, type := 3, pos := "l07_orthogonal.go:93", after := #[{ on := 10, ground := Ground.data }, { on := 6, ground := Ground.guard }], guard := some (6, false) }) (v := undef) rfl (by kernel_rfl) (by kernel_rfl) (by kernel_rfl) (fun _ _ _ h => h) (Or.inr ⟨by rfl, rfl⟩) (by assumption) ?_
        simp only [Act.put, List.setIfInBounds_toArray, List.set_cons_zero, List.set_cons_succ]
        refine wpAnyH_take (i := 12) (oi := { dst := some 31, op := Op.move (Operand.tmp 0), type := 26, pos := "l07_orthogonal.go:93", after := #[{ on := 6, ground := Ground.guard }], guard := some (6, false) }) (v := undef) rfl (by kernel_rfl) (by kernel_rfl) (by kernel_rfl) (fun _ _ _ h => h) (Or.inr ⟨by rfl, rfl⟩) (by assumption) ?_
        simp only [Act.put, List.setIfInBounds_toArray, List.set_cons_zero, List.set_cons_succ]
        refine wpAnyH_take (i := 13) (oi := { dst := some 32, op := Op.indexAddr 26 (Operand.tmp 31) (Operand.const (Value.int IntKind.i64 0)), type := 0, pos := "l07_orthogonal.go:93", after := #[{ on := 12, ground := Ground.data }, { on := 6, ground := Ground.guard }], guard := some (6, false) }) (v := undef) rfl (by kernel_rfl) (by kernel_rfl) (by kernel_rfl) (fun _ _ _ h => h) (Or.inr ⟨by rfl, rfl⟩) (by assumption) ?_
        simp only [Act.put, List.setIfInBounds_toArray, List.set_cons_zero, List.set_cons_succ]
        refine wpAnyH_take (i := 14) (oi := { dst := some 33, op := Op.load 22 (Operand.tmp 32), type := 22, pos := "l07_orthogonal.go:93", after := #[{ on := 13, ground := Ground.data }, { on := 6, ground := Ground.guard }], guard := some (6, false) }) (v := undef) rfl (by kernel_rfl) (by kernel_rfl) (by kernel_rfl) (fun _ _ _ h => h) (Or.inr ⟨by rfl, rfl⟩) (by assumption) ?_
        simp only [Act.put, List.setIfInBounds_toArray, List.set_cons_zero, List.set_cons_succ]
        refine wpAnyH_take (i := 15) (oi := { dst := some 34, op := Op.call { callee := Callee.builtin Builtin.len, args := #[Operand.tmp 33], argTypes := #[22] }, type := 3, pos := "l07_orthogonal.go:93", after := #[{ on := 14, ground := Ground.data }, { on := 6, ground := Ground.guard }], guard := some (6, false) }) (v := undef) rfl (by kernel_rfl) (by kernel_rfl) (by kernel_rfl) (fun _ _ _ h => h) (Or.inr ⟨by rfl, rfl⟩) (by assumption) ?_
        simp only [Act.put, List.setIfInBounds_toArray, List.set_cons_zero, List.set_cons_succ]
        refine wpAnyH_take (i := 16) (oi := { dst := some 35, op := Op.binOp BinOp.neq 3 (Operand.tmp 30) (Operand.tmp 34) 3, type := 4, pos := "l07_orthogonal.go:93", after := #[{ on := 11, ground := Ground.data }, { on := 15, ground := Ground.data }, { on := 6, ground := Ground.guard }], guard := some (6, false) }) (v := undef) rfl (by kernel_rfl) (by kernel_rfl) (by kernel_rfl) (fun _ _ _ h => h) (Or.inr ⟨by rfl, rfl⟩) (by assumption) ?_
        simp only [Act.put, List.setIfInBounds_toArray, List.set_cons_zero, List.set_cons_succ]
        refine wpAnyH_take (i := 17) (oi := { dst := some 36, op := Op.pick (Operand.tmp 25) (Operand.const (Value.bool true)) (Operand.tmp 35), type := 4, pos := "l07_orthogonal.go:93", after := #[{ on := 6, ground := Ground.data }, { on := 16, ground := Ground.data }], guard := none }) (v := ?_) rfl (by kernel_rfl) (by kernel_rfl) (by kernel_rfl) (fun _ _ _ h => h) (Or.inl ⟨by rfl, ?_⟩) (by assumption) ?_
        rotate_left
        · intro w hSw; (try dsimp only at hSw); go_simp
          try with_reducible rfl
        simp only [Act.put, List.setIfInBounds_toArray, List.set_cons_zero, List.set_cons_succ]
        refine wpAnyH_done (by kernel_rfl) ?_ _
        go_wp2
        go_ret
        exact ⟨by rw [V.out]; rfl, X4.out⟩
      | true =>
        by_cases e : l = l0
        case neg =>
          have V := Lib.hid (NJ.out (fun h => by
            have j00 : 0 < j := by
              rcases Nat.eq_zero_or_pos j with z | z
              · subst z; exact absurd (HLJ.out.symm.trans HL0.out) e
              · exact z
            have := (Orth_sq' (h.2 0 j00))
            rw [HL0.out, HLJ.out] at this
            exact e this.symm))
          have e1 : ((l : Int) != (l0 : Int)) = true := by simp; omega
          have e1' : (l != l0) = true := by simp [e]
          clear hb NJ e
          go_wp2
          go_region_held3 (fun W => W.cell? ⟨g, off + j, none⟩ = some (.slice xa l xc) ∧ W.cell? ⟨g, off, none⟩ = some (.slice za l0 zc) ∧ Hid (Below w.heap.size w W)) (first | assumption | exact KEY.out _ (by assumption))
            (first | (go_at_call 45; refine (HS.out _ (Hid.out (by assumption))).mono ?_; rintro e w4 ⟨rfl, b4⟩; have X4 := Lib.hid (t_chain (Hid.out (by assumption)) b4); clear b4))
          go_wp2
          go_ret
          exact ⟨by rw [V.out]; rfl, X4.out⟩
        subst e
        have e1 : ((l : Int) != (l : Int)) = false := by simp
        have e1' : (l != l) = false := by simp
        have HB := Lib.hid hb
        clear hb
        go_wp2
        go_region_held3 (fun W => W.cell? ⟨g, off + j, none⟩ = some (.slice xa l xc) ∧ W.cell? ⟨g, off, none⟩ = some (.slice za l zc) ∧ Hid (Below w.heap.size w W)) (first | assumption | exact KEY.out _ (by assumption))
          (first | (go_at_call 45; refine (HS.out _ (Hid.out (by assumption))).mono ?_; rintro e w4 ⟨rfl, b4⟩; have X4 := Lib.hid (t_chain (Hid.out (by assumption)) b4); clear b4))
        obtain ⟨wq, rfl⟩ : ∃ wq : World, wq = w4 := ⟨_, rfl⟩
        have HCJ : Hid (∀ W : World, Hid (Below w.heap.size w W) → W.cell? ⟨g, off + j, none⟩ = some (.slice xa l xc)) := fun W hW => (KEY.out W hW).1
        clear KEY HK XD HS
        go_wp2
        go_loopw [4] (fun i wr => ∃ k : Nat, k ≤ j ∧ i = .int .i64 k ∧ Hid (∀ p, p < k → Orthogonal_0 (q.getD p []) (q.getD j []) = true) ∧ Hid (Below w.heap.size w wr)) (fun i _ => j - (intOf i).toNat)
        case atStart => exact ⟨0, by omega, rfl, fun p hp => by omega, X4⟩
        case round =>
          obtain ⟨k, hk, rfl, hP, hBl2⟩ := hrel
          by_cases c2 : k < j
          · have k2 : decide (k < j) = true := by simpa using c2
            have k2' : decide ((k : Int) < (j : Int)) = true := decide_eq_true (by omega)
            have wy4 := IntWalk.i64_in ((k : Int) + 1) (by omega)
            have y0 : (0 : Int) ≤ (k : Int) := by omega
            have y1 : (k : Int) < (n : Int) := by omega
            obtain ⟨g', off', y, e0, hg', ck, hy⟩ := HC.out k (by omega)
            simp only [Option.some.injEq, Addr.mk.injEq] at e0
            obtain ⟨rfl, rfl, -⟩ := e0
            obtain ⟨ya, yc, rfl, -⟩ := hy.shape
            have HO := Lib.hid (fun W (b : Below w.heap.size w W) => sOrtho _ _ W _ _ (hy.below b (Nat.le_refl _)) (HX.out.below b (Nat.le_refl _)))
            obtain ⟨z, hz⟩ : ∃ z, Orthogonal_0 (q.getD k []) (q.getD j []) = z := ⟨_, rfl⟩
            simp only [hz, HLJ.out] at HO
            obtain ⟨lk, hlk⟩ : ∃ l, (q.getD k []).length = l := ⟨_, rfl⟩
            rw [hlk] at ck HO
            have KEY : Hid (∀ W : World, Hid (Below w.heap.size w W) → W.cell? ⟨g, off + k, none⟩ = some (.slice ya lk yc) ∧ W.cell? ⟨g, off + j, none⟩ = some (.slice xa l xc) ∧ Hid (Below w.heap.size w W)) := fun W hW =>
              ⟨(hW.out.cell (p := ⟨g, off + k, none⟩) hg).trans ck, HCJ.out W hW, hW⟩
            have XD : Hid (Below w.heap.size w wr.drew) := hBl2.out.drew
            have HK := KEY.out _ XD
            clear hy ck hlk
            cases z with
            | false =>
              have V := Lib.hid (NJ.out (fun h => by rw [h.2 k c2] at hz; cases hz))
              clear hz
              go_wp2
              go_region_held3 (fun W => W.cell? ⟨g, off + k, none⟩ = some (.slice ya lk yc) ∧ W.cell? ⟨g, off + j, none⟩ = some (.slice xa l xc) ∧ Hid (Below w.heap.size w W)) (first | assumption | exact KEY.out _ (by assumption))
                (first | (go_at_call 40; refine (HO.out _ (Hid.out (by assumption))).mono ?_; rintro e w5 ⟨rfl, b5⟩; have X5 := Lib.hid (t_chain (Hid.out (by assumption)) b5); clear b5))
              go_wp2
              go_ret
              exact ⟨by rw [V.out]; rfl, X5.out⟩
            | true =>
              have P2 : Hid (∀ p, p < k + 1 → Orthogonal_0 (q.getD p []) (q.getD j []) = true) := fun p hp => by
                by_cases e : p = k
                · rw [e]; exact hz
                · exact hP.out p (by omega)
              clear hz
              go_wp2
              go_region_held3 (fun W => W.cell? ⟨g, off + k, none⟩ = some (.slice ya lk yc) ∧ W.cell? ⟨g, off + j, none⟩ = some (.slice xa l xc) ∧ Hid (Below w.heap.size w W)) (first | assumption | exact KEY.out _ (by assumption))
                (first | (go_at_call 40; refine (HO.out _ (Hid.out (by assumption))).mono ?_; rintro e w5 ⟨rfl, b5⟩; have X5 := Lib.hid (t_chain (Hid.out (by assumption)) b5); clear b5))
              go_wp2
              go_roundw
              case rel => exact ⟨k + 1, by omega, by go_num, P2, X5⟩
              case measure => simp [intOf]; omega
          · have k2 : decide (k < j) = false := by simpa using c2
            have k2' : decide ((k : Int) < (j : Int)) = false := decide_eq_false (by omega)
            obtain rfl : k = j := by omega
            have O2 : Hid (∀ p, p < k + 1 → okMol q p) := fun p hp => by
              by_cases e : p = k
              · rw [e]; exact ⟨HB.out, hP.out⟩
              · exact hO.out p (by omega)
            go_wp2
            go_roundw
            case rel => exact ⟨k + 1, by omega, by go_num, O2, hBl2⟩
            case measure => simp [intOf]; omega
    · have k1 : decide (j < n) = false := by simpa using c
      have k1' : decide ((j : Int) < (n : Int)) = false := decide_eq_false (by omega)
      obtain rfl : j = n := by omega
      have V := Lib.hid (YES.out hO.out)
      go_wp2
      go_ret
      exact ⟨by rw [V.out]; rfl, hBl.out⟩

set_option maxHeartbeats 1000000 in
theorem sValidMols (q : List (List (List Int))) (hx : SmallQ q) (w : World) (v : Value) (hv : QAt w v q) :
    Calls Try.prog 17 #[v] w fun e w' => e = .returned (.bool (ValidMols_0 q)) ∧ Below w.heap.size w w' := by
  have H := Lib.hid (sVm w v q hv)
  obtain ⟨z, hz⟩ : ∃ z, ValidMols_0 q = z := ⟨_, rfl⟩
  rw [hz] at H ⊢
  clear hv hx hz
  go_enter Try.func17, Try.ntmps17
  go_wp2_with fail
  refine H.out.mono ?_
  rintro e w1 ⟨rfl, b1⟩
  have B1 := Lib.hid b1
  clear b1
  go_wp2
  go_ret
  exact ⟨rfl, B1.out⟩

set_option maxRecDepth 100000 in
set_option maxHeartbeats 8000000 in
theorem iVm (w : World) (v : Value) (q : List (List (List Int))) (hq : SmallQ q) (hv : QAt w v q) :
    Calls Try.prog 19 #[v] w fun e w' => e = .returned (.bool (ValidMols_0 q)) ∧ Below w.heap.size w w' := by
  have hml := hv.1
  have QM := Lib.hid (fun j h => hq.mem (j := j) h)
  obtain ⟨a, cap, rfl, hcap, hc⟩ := hv.shape
  clear hq
  by_cases hn : 1 ≤ q.length ∧ q.length ≤ 10
  case neg =>
    have V : Hid (ValidMols_0 q = false) := vm_false fun k => hn k.1
    obtain ⟨n, hn'⟩ : ∃ n, q.length = n := ⟨_, rfl⟩
    rw [hn'] at hn hml ⊢
    by_cases c : n < 1
    · have t1 : decide ((n : Int) < 1) = true := decide_eq_true (by omega)
      have t1' : decide (n < 1) = true := decide_eq_true (by omega)
      clear hv hc hn hn' hcap
      go_enter Try.func19, Try.ntmps19
      go_wp2
      go_ret
      exact ⟨by rw [V.out]; rfl, Below.refl _ _⟩
    · have t1 : decide ((n : Int) < 1) = false := decide_eq_false (by omega)
      have t1' : decide (n < 1) = false := decide_eq_false (by omega)
      have t2 : decide ((10 : Int) < (n : Int)) = true := decide_eq_true (by omega)
      have t2' : decide (10 < n) = true := decide_eq_true (by omega)
      clear hv hc hn hn' hcap
      go_enter Try.func19, Try.ntmps19
      go_wp2
      go_ret
      exact ⟨by rw [V.out]; rfl, Below.refl _ _⟩
  obtain ⟨lo, hi⟩ := hn
  have YES : Hid ((∀ k, k < q.length → okMol q k) → ValidMols_0 q = true) := fun h => vm_true ⟨⟨lo, hi⟩, h⟩
  have NO : Hid (∀ k, k < q.length → ¬ okMol q k → ValidMols_0 q = false) := fun k hk h => vm_false fun x => h (x.2 k hk)
  have HC := Lib.hid hc
  obtain ⟨n, hn⟩ : ∃ n, q.length = n := ⟨_, rfl⟩
  rw [hn] at HC YES NO lo hi hcap hml QM ⊢
  have t1 : decide ((n : Int) < 1) = false := decide_eq_false (by omega)
  have t1' : decide (n < 1) = false := decide_eq_false (by omega)
  have t2 : decide ((10 : Int) < (n : Int)) = false := decide_eq_false (by omega)
  have t2' : decide (10 < n) = false := decide_eq_false (by omega)
  clear hv hc hn
  go_enter Try.func19, Try.ntmps19
  go_wp2
  go_loopw [17] (fun i wr => ∃ j : Nat, j ≤ n ∧ i = .int .i64 j ∧ Hid (∀ k, k < j → okMol q k) ∧ Hid (Below w.heap.size w wr)) (fun i _ => n - (intOf i).toNat)
  case atStart => exact ⟨0, by omega, rfl, fun k hk => by omega, Below.refl _ _⟩
  case round =>
    obtain ⟨j, hj, rfl, hO, hBl⟩ := hrel
    by_cases c : j < n
    · have k1 : decide (j < n) = true := by simpa using c
      have k1' : decide ((j : Int) < (n : Int)) = true := decide_eq_true (by omega)
      have wx3 := IntWalk.i64_in ((j : Int) + 1) (by omega)
      have j0 : (0 : Int) ≤ (j : Int) := by omega
      have j1 : (j : Int) < (n : Int) := by omega
      have j2 : (j : Int) ≤ (cap : Int) := by omega
      have j2' : j ≤ cap := by omega
      obtain ⟨g, off, x, rfl, hg, cj, hx⟩ := HC.out j c
      obtain ⟨xa, xc, rfl, -⟩ := hx.shape
      have HX := Lib.hid hx
      have HS := Lib.hid (iValidSquare _ (QM.out j c) wr _ (hx.below hBl.out (Nat.le_refl _)))
      have VE : Hid (ValidSquare_0 (q.getD j []) = sqB (q.getD j [])) := rfl
      rw [VE.out] at HS
      have NJ := Lib.hid (NO.out j c)
      obtain ⟨b, hb⟩ : ∃ b, sqB (q.getD j []) = b := ⟨_, rfl⟩
      rw [hb] at HS
      obtain ⟨l, hl⟩ : ∃ l, (q.getD j []).length = l := ⟨_, rfl⟩
      have HLJ := Lib.hid hl
      rw [hl] at cj HS
      have cj2 := (hBl.out.cell (p := ⟨g, off + j, none⟩) hg).trans cj
      clear hx cj hl
      cases b with
      | false =>
        have V := Lib.hid (NJ.out (fun h => by rw [h.1] at hb; cases hb))
        clear hb NJ
        go_wp2_with fail
        refine HS.out.mono ?_
        rintro e w4 ⟨rfl, b4⟩
        have X4 := Lib.hid (t_chain hBl.out b4)
        clear b4
        go_wp2
        go_ret
        exact ⟨by rw [V.out]; rfl, X4.out⟩
      | true =>
        have HB := Lib.hid hb
        clear hb
        go_wp2_with fail
        refine HS.out.mono ?_
        rintro e w4 ⟨rfl, b4⟩
        have X4 := Lib.hid (t_chain hBl.out b4)
        clear b4 HS
        obtain ⟨wq, rfl⟩ : ∃ wq : World, wq = w4 := ⟨_, rfl⟩
        go_wp2
        go_loopw [29] (fun i wr => ∃ k : Nat, k ≤ j ∧ i = .int .i64 k ∧ Hid (∀ p, p < k → Orthogonal_0 (q.getD p []) (q.getD j []) = true) ∧ Hid (Below w.heap.size w wr)) (fun i _ => j - (intOf i).toNat)
        case atStart => exact ⟨0, by omega, rfl, fun p hp => by omega, X4⟩
        case round =>
          obtain ⟨k, hk, rfl, hP, hBl2⟩ := hrel
          by_cases c2 : k < j
          · have k2 : decide (k < j) = true := by simpa using c2
            have k2' : decide ((k : Int) < (j : Int)) = true := decide_eq_true (by omega)
            have wy4 := IntWalk.i64_in ((k : Int) + 1) (by omega)
            have y0 : (0 : Int) ≤ (k : Int) := by omega
            have y1 : (k : Int) < (j : Int) := by omega
            obtain ⟨g', off', y, e0, hg', ck, hy⟩ := HC.out k (by omega)
            simp only [Option.some.injEq, Addr.mk.injEq] at e0
            obtain ⟨rfl, rfl, -⟩ := e0
            obtain ⟨ya, yc, rfl, -⟩ := hy.shape
            have HO := Lib.hid (iOrthogonal _ _ (QM.out k (by omega)) (QM.out j c) wr _ _ (hy.below hBl2.out (Nat.le_refl _)) (HX.out.below hBl2.out (Nat.le_refl _)))
            obtain ⟨z, hz⟩ : ∃ z, Orthogonal_0 (q.getD k []) (q.getD j []) = z := ⟨_, rfl⟩
            rw [hz, HLJ.out] at HO
            obtain ⟨lk, hlk⟩ : ∃ l, (q.getD k []).length = l := ⟨_, rfl⟩
            rw [hlk] at ck HO
            have ck2 := (hBl2.out.cell (p := ⟨g, off + k, none⟩) hg).trans ck
            clear hy ck hlk
            cases z with
            | false =>
              have V := Lib.hid (NJ.out (fun h => by rw [h.2 k c2] at hz; cases hz))
              clear hz
              go_wp2_with fail
              refine HO.out.mono ?_
              rintro e w5 ⟨rfl, b5⟩
              have X5 := Lib.hid (t_chain hBl2.out b5)
              clear b5
              go_wp2
              go_ret
              exact ⟨by rw [V.out]; rfl, X5.out⟩
            | true =>
              have P2 : Hid (∀ p, p < k + 1 → Orthogonal_0 (q.getD p []) (q.getD j []) = true) := fun p hp => by
                by_cases e : p = k
                · rw [e]; exact hz
                · exact hP.out p (by omega)
              clear hz
              go_wp2_with fail
              refine HO.out.mono ?_
              rintro e w5 ⟨rfl, b5⟩
              have X5 := Lib.hid (t_chain hBl2.out b5)
              clear b5
              go_wp2
              go_roundw
              case rel => exact ⟨k + 1, by omega, by go_num, P2, X5⟩
              case measure => simp [intOf]; omega
          · have k2 : decide (k < j) = false := by simpa using c2
            have k2' : decide ((k : Int) < (j : Int)) = false := decide_eq_false (by omega)
            obtain rfl : k = j := by omega
            have O2 : Hid (∀ p, p < k + 1 → okMol q p) := fun p hp => by
              by_cases e : p = k
              · rw [e]; exact ⟨HB.out, hP.out⟩
              · exact hO.out p (by omega)
            go_wp2
            go_roundw
            case rel => exact ⟨k + 1, by omega, by go_num, O2, hBl2⟩
            case measure => simp [intOf]; omega
    · have k1 : decide (j < n) = false := by simpa using c
      have k1' : decide ((j : Int) < (n : Int)) = false := decide_eq_false (by omega)
      obtain rfl : j = n := by omega
      have V := Lib.hid (YES.out hO.out)
      go_wp2
      go_ret
      exact ⟨by rw [V.out]; rfl, hBl.out⟩
theorem iValidMols (q : List (List (List Int))) (hx : SmallQ q) (w : World) (v : Value) (hv : QAt w v q) :
    Calls Try.prog 19 #[v] w fun e w' => e = .returned (.bool (ValidMols_0 q)) ∧ Below w.heap.size w w' := iVm w v q hx hv
end Go.Proofs.Ytkonddifmonkcaa
