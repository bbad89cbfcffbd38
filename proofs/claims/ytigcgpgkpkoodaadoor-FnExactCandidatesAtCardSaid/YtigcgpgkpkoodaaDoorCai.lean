/- CandidatesAt: the program. -/
import Derived.Test.YtigcgpgkpkoodaaDoorFci
import Derived.Test.YtigcgpgkpkoodaaDoorPs
namespace Go.Proofs.YtigcgpgkpkoodaaDoor
open Go.RowKit Go.Shelf
set_option linter.unusedVariables false

theorem cdl_sorted (n : Nat) (f : Nat → Nat → Int) (x y : Nat) : ∀ v, (cdl n f x y v).Pairwise (· < ·)
  | 0 => List.Pairwise.nil
  | v + 1 => by
    rw [cdl]
    refine List.pairwise_append.2 ⟨cdl_sorted n f x y v, ?_, fun a ha b hb => ?_⟩
    · split
      · exact List.pairwise_singleton _ _
      · exact List.Pairwise.nil
    · obtain ⟨t, h1, -, rfl⟩ := (cdl_mem n f x y a v).1 ha
      split at hb
      · simp at hb; omega
      · simp at hb
theorem cand_iff {n x y : Nat} {f : Nat → Nat → Int} (hx : x < n) (hy : y < n) (z : Int) : Cand n (sqF n f) x y z ↔ Cand n f x y z := by
  unfold Cand
  constructor
  · rintro ⟨a, b⟩
    exact ⟨fun k hk => by have := a k hk; rwa [sqF_in _ hx hk] at this, fun k hk => by have := b k hk; rwa [sqF_in _ hk hy] at this⟩
  · rintro ⟨a, b⟩
    exact ⟨fun k hk => by rw [sqF_in _ hx hk]; exact a k hk, fun k hk => by rw [sqF_in _ hk hy]; exact b k hk⟩
theorem cdl_fls {n x y : Nat} {f : Nat → Nat → Int} {r c : Nat → Nat} (h : n ≤ 10) (hr : RowB n (sqF n f) r) (hc : ColB n (sqF n f) c) (hx : x < n) (hy : y < n) :
    fls 32 (fun i => (cnd n (r x) (c y)).testBit i) = cdl n f x y n := by
  refine sorted_ext _ _ (fls_sorted _ _) (cdl_sorted n f x y n) fun z => ?_
  rw [fls_mem, cdl_mem]
  constructor
  · rintro ⟨t, h1, h2, rfl⟩
    obtain ⟨k1, k2⟩ := (cnd_iff h hr hc hx hy t).1 h2
    exact ⟨t, k1, cndB_iff.2 ((cand_iff hx hy _).1 k2), rfl⟩
  · rintro ⟨t, h1, h2, rfl⟩
    exact ⟨t, by omega, (cnd_iff h hr hc hx hy t).2 ⟨h1, (cand_iff hx hy _).2 (cndB_iff.1 h2)⟩, rfl⟩

set_option maxRecDepth 100000 in
set_option maxHeartbeats 8000000 in
theorem iCandidatesAt (xss : List (List Int)) (a b : Int) (hx : SmallLL xss) (ha : I64 a) (hb : I64 b) (w : World) (v : Value) (hv : RowsAt w v xss) (ht : Tab w) :
    Calls Tryd.prog 34 #[v, .int .i64 a, .int .i64 b] w fun e w' => ∃ r, e = .returned (.tuple #[r, .int .i64 (CandidatesAt_1 xss a b)]) ∧ Ints w' w.heap.size r (CandidatesAt_0 xss a b) ∧ Below w.heap.size w w' := by
  have HE := Lib.hid (iepo xss a b w v hv)
  have e1 : CandidatesAt_1 xss a b = cdC xss a b := rfl
  rw [e1]
  clear e1
  have TB := Lib.hid ht
  by_cases hz : cdC xss a b = 0
  case neg =>
    have V := Lib.hid (CandidatesAt_no hz)
    obtain ⟨q, hq⟩ : ∃ q, cdC xss a b = q := ⟨_, rfl⟩
    rw [hq] at HE hz ⊢
    have t1 : (q != 0) = true := by simpa using hz
    clear hv hx hq hz ht
    go_enter Tryd.func34, Tryd.ntmps34
    go_wp2_with fail
    refine HE.out.mono ?_
    rintro e w1 ⟨r, rfl, -, b1⟩
    have B1 := Lib.hid b1
    clear b1
    go_wp2
    go_ret2
    exact ⟨_, rfl, by rw [V.out]; exact nilI _ _, B1.out⟩
  have V := Lib.hid (CandidatesAt_ok hz)
  obtain ⟨hp, hI, -⟩ := cdC_zero hz
  have S := of_ptB hp
  have nhi := S.hi
  rw [hz] at HE ⊢
  obtain ⟨n, hn⟩ : ∃ n, xss.length = n := ⟨_, rfl⟩
  rw [hn] at HE V nhi hI
  unfold In2 at hI
  obtain ⟨⟨a0, a1⟩, b0, b1⟩ := hI
  obtain ⟨A, rfl⟩ : ∃ A : Nat, a = A := ⟨a.toNat, by omega⟩
  obtain ⟨D, rfl⟩ : ∃ D : Nat, b = D := ⟨b.toNat, by omega⟩
  rw [Int.toNat_natCast, Int.toNat_natCast] at V
  have A1 : A < n := by omega
  have D1 : D < n := by omega
  obtain ⟨F, hF⟩ : ∃ F, cellF xss = F := ⟨_, rfl⟩
  rw [hF] at HE V
  clear hv hx hz hp S hn hF a1 b1 ht
  go_enter Tryd.func34, Tryd.ntmps34
  go_wp2_with fail
  refine HE.out.mono ?_
  rintro e w1 ⟨p, rfl, hP, b1⟩
  obtain ⟨g, rfl, hg, r, c, P, R, C⟩ := hP (by trivial)
  have HC := Lib.hid (icand n nhi A D (by omega) (by omega) _ r c w1 g P (R A A1).1 (C D D1).1)
  have EF := cdl_fls (f := F) nhi R C A1 D1
  have cl := cnd_lt (u := r A) (v := c D) nhi
  obtain ⟨s, hs⟩ : ∃ s, cnd n (r A) (c D) = s := ⟨_, rfl⟩
  rw [hs] at HC EF cl
  have HPT := Lib.hid (fun k => ipoints s (w1.drewN k) cl ((TB.out.below b1 TB.out.pos : Tab w1)))
  rw [EF] at HPT
  have B1 := Lib.hid b1
  clear hP P R C b1 EF hs cl HE
  go_wp2_with fail
  refine HC.out.mono ?_
  rintro e w2 ⟨rfl, k, rfl⟩
  go_wp2_with fail
  refine (HPT.out k).mono ?_
  rintro e w3 ⟨rr, rfl, i3, b3⟩
  have I3 := Lib.hid (i3.mono (B' := w.heap.size) (show w.heap.size ≤ (w1.drewN k).heap.size from B1.out.size))
  have B3 := Lib.hid (t_chain (Go.below_drewN B1.out k) b3)
  clear i3 b3
  go_wp2
  go_ret2
  exact ⟨_, rfl, by rw [V.out]; exact I3.out, B3.out⟩
end Go.Proofs.YtigcgpgkpkoodaaDoor
