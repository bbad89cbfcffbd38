/- The law of residues. -/
import Derived.Test.YtninajgnmogmeaaDraw2
import Derived.Test.YtninajgnmogmeaaPow2
import Derived.Test.YtninajgnmogmeaaOrd
namespace Go.Proofs.Ytninajgnmogmeaa
open Go.RowKit
set_option linter.unusedVariables false

theorem row_bytes {w : World} {a : Option Addr} {len cap : Nat} {zs : List Int} (h : IsRow .u8 w a len cap zs) : BytesAt w w.heap.size a len := by
  intro i hi
  rcases h with ⟨rfl, rfl, _, _⟩ | ⟨⟨b, off, spot⟩, rfl, h1, h2, h3, h4, h5⟩
  · omega
  · have hc := h4 0 (by omega)
    have hspot : spot = none := by simpa [Addr.add] using World.cell?_spot hc
    subst hspot
    have hci := h4 i (by omega)
    rw [show (⟨b, off, none⟩ : Addr).add i = ⟨b, off + i, none⟩ by unfold Addr.add; split <;> simp_all] at hci
    have hm : zs.getD i 0 ∈ zs := by
      rw [List.getD_eq_getElem?_getD, List.getElem?_eq_getElem (by omega)]
      exact List.getElem_mem _
    have hw := h5 _ hm
    have hr : 0 ≤ zs.getD i 0 ∧ zs.getD i 0 ≤ 255 := by simpa [Lit.wf, IntKind.min, IntKind.max, IntKind.signed, IntKind.bits] using hw
    refine ⟨b, off, rfl, World.block_lt_of_cell? w _ hci, (zs.getD i 0).toNat, by omega, ?_⟩
    rw [hci]
    congr 2
    omega
theorem BytesAt.below {w w' : World} {B : Nat} {a : Option Addr} {len : Nat} (h : BytesAt w B a len) (hb : Below B w w') : BytesAt w' B a len := by
  intro i hi
  obtain ⟨g, off, ha, hg, b, hb1, cb⟩ := h i hi
  exact ⟨g, off, ha, hg, b, hb1, (hb.cell (p := ⟨g, off + i, none⟩) hg).trans cb⟩

/-- A number from 0 to n - 1 that a byte chooses. -/
theorem at_any (w : World) (B : Nat) (a : Option Addr) (len cap : Nat) (hb : BytesAt w B a len) (hl : len ≤ 1048576) (i : Nat) (n : Int) (hi : i ≤ 1000) (hn : 1 < n) (hn' : n ≤ 1000) :
    Calls Try.prog 46 #[.slice a len cap, .int .i64 i, .int .i64 n] w fun e w' => ∃ v : Int, e = .returned (.int .i64 v) ∧ (0 ≤ v ∧ v < n) ∧ w = w' := by
  have z1 : ¬ n = 0 := by omega
  have z2 : ¬ n ≤ 1 := by omega
  have HB := Lib.hid hb
  clear hb
  by_cases hlt : i < len
  · obtain ⟨g, off, ha, hg, b, hb1, cb⟩ := HB.out i hlt
    have V := Lib.hid (show 0 ≤ (b : Int) % n ∧ (b : Int) % n < n from ⟨Int.emod_nonneg _ z1, Int.emod_lt_of_pos _ (by omega)⟩)
    have i1 : (0 : Int) ≤ (i : Int) := by omega
    have i2 : (i : Int) < (len : Int) := by omega
    have b0 : (0 : Int) ≤ (b : Int) := by omega
    have b1 : (b : Int) ≤ 255 := by omega
    subst ha
    clear hb1 hg
    go_enter Try.func46, Try.ntmps46
    go_wp2
    go_ret
    exact ⟨_, rfl, V.out, rfl⟩
  · have hge : ¬ (i : Int) < (len : Int) := by omega
    have i1 : (i : Int) ≤ 1000 := by omega
    have V := Lib.hid (show 0 ≤ ((i : Int) * 37 + 11) % n ∧ ((i : Int) * 37 + 11) % n < n from ⟨Int.emod_nonneg _ z1, Int.emod_lt_of_pos _ (by omega)⟩)
    go_enter Try.func46, Try.ntmps46
    go_wp2
    go_ret
    exact ⟨_, rfl, V.out, rfl⟩

theorem drawInverse (w : World) (a : Option Addr) (len cap : Nat) (zs : List Int) (h : IsRow .u8 w a len cap zs) (hl : len ≤ 1048576) :
    Calls Try.prog 45 #[.slice a len cap] w fun e w' => ∃ x m : Int, e = .returned (.tuple #[.int .i64 x, .int .i64 m]) ∧ ((-5 ≤ x ∧ x ≤ 1002) ∧ (-5 ≤ m ∧ m ≤ 1001)) ∧ Below w.heap.size w w' := by
  have H := Lib.hid h
  clear h
  go_enter Try.func45, Try.ntmps45
  go_wp2_with fail
  refine (from_any _ a len cap zs H.out hl).mono ?_
  rintro e w1 ⟨rfl, s1, b1⟩
  obtain ⟨p, hp⟩ : ∃ p, w.heap.size = p := ⟨_, rfl⟩
  rw [hp] at s1 b1 ⊢
  have B1 := Lib.hid b1
  have O1 := Lib.hid (DrawOut.refl s1)
  have hp' : p ≤ w1.heap.size := Nat.le_of_lt s1.lt
  have HE := Lib.hid hp
  clear s1 b1 hp
  go_wp2_with fail
  refine (drawMod _ p 0 O1.out.1 (by omega)).mono ?_
  rintro e w2 ⟨m, rfl, ⟨m0, m1⟩, o2⟩
  have O2 := Lib.hid (O1.out.trans o2)
  clear o2
  go_wp2_with fail
  refine (drawRes _ p (0 + 4) m O2.out.1 (by omega) m0 m1).mono ?_
  rintro e w3 ⟨x, rfl, ⟨x0, x1⟩, o3⟩
  have O3 := Lib.hid (B1.out.trans ((O2.out.trans o3).below hp'))
  clear o3
  go_wp2
  go_ret2
  exact ⟨x, m, rfl, ⟨⟨x0, x1⟩, ⟨m0, m1⟩⟩, by rw [HE.out]; exact O3.out⟩

def pwf (a m e : Int) : Int := a ^ e.toNat % m
theorem pwf_rng (a m e : Int) (hm : 1 ≤ m) : 0 ≤ pwf a m e ∧ pwf a m e < m := ⟨Int.emod_nonneg _ (by omega), Int.emod_lt_of_pos _ (by omega)⟩
theorem pwf_add (a m i k : Int) (i0 : 0 ≤ i) (k0 : 0 ≤ k) : pwf a m i * pwf a m k % m = pwf a m (i + k) := by
  unfold pwf
  rw [← Int.mul_emod, ← Int.pow_add, show (i + k).toNat = i.toNat + k.toNat by omega]
theorem pwf_mul (a m e : Int) (n : Nat) (h : a ^ e.toNat % m = 1 % m) : a ^ (e.toNat * n) % m = 1 % m := by
  induction n with
  | zero => simp
  | succ n ih => rw [Nat.mul_succ, Int.pow_add, Int.mul_emod, ih, h, ← Int.mul_emod, Int.mul_one]
theorem pwf_mod (a m i e : Int) (i0 : 0 ≤ i) (e1 : 1 ≤ e) (h : a ^ e.toNat % m = 1 % m) : pwf a m (i % e) = pwf a m i := by
  unfold pwf
  have d := Int.mul_ediv_add_emod i e
  have m0 := Int.emod_nonneg i (show e ≠ 0 by omega)
  have q0 : 0 ≤ i / e := Int.ediv_nonneg i0 (by omega)
  have hx : i.toNat = e.toNat * (i / e).toNat + (i % e).toNat := by
    have : (i.toNat : Int) = ((e.toNat * (i / e).toNat + (i % e).toNat : Nat) : Int) := by
      rw [Int.natCast_add, Int.natCast_mul]
      rw [Int.toNat_of_nonneg i0, Int.toNat_of_nonneg q0, Int.toNat_of_nonneg m0, Int.toNat_of_nonneg (show 0 ≤ e by omega)]
      omega
    omega
  rw [hx, Int.pow_add, Int.mul_emod, pwf_mul a m e _ h, ← Int.mul_emod, Int.one_mul]

theorem ipw (a e m : Int) (h : IsRes a m) (e0 : 0 ≤ e) (e1 : e ≤ 1000000) (W : World) :
    Calls Try.prog 21 #[.int .i64 a, .int .i64 e, .int .i64 m] W fun r w' => r = .returned (.tuple #[.int .i64 (pwf a m e), .int .i64 0]) ∧ Below W.heap.size W w' :=
  (ipowerMod a e m W).mono fun r w' ⟨p, c, hr, hv, hb⟩ => by
    rcases hv with ⟨_, rfl, rfl⟩ | ⟨k, _⟩
    · exact ⟨hr, hb⟩
    · exact absurd ⟨h, e0, e1⟩ k
end Go.Proofs.Ytninajgnmogmeaa
