/- Draws of congruences, and the law of Chinese remainders. -/
import Derived.Test.YtocjdjgfadaljaaDraw
namespace Go.Proofs.Ytocjdjgfadaljaa
open Go.RowKit
set_option linter.unusedVariables false

/-- A source is begun over the bytes that a law is given. -/
theorem from_any (w : World) (a : Option Addr) (len cap : Nat) (zs : List Int) (h : IsRow .u8 w a len cap zs) (hl : len ≤ 1048576) :
    Calls Try.prog 35 #[.slice a len cap] w fun e w' => e = .returned (.pointer (some ⟨w.heap.size, 0, none⟩)) ∧ Src w' w.heap.size 0 ∧ Below w.heap.size w w' := by
  have hB : BytesAt w w.heap.size a len := by
    intro i hi
    rcases h with ⟨rfl, rfl, _, _⟩ | ⟨⟨b, off, spot⟩, rfl, h1, h2, h3, h4, h5⟩
    · omega
    · have hc := h4 0 (by omega)
      have hspot : spot = none := by simpa [Addr.add] using World.cell?_spot hc
      subst hspot
      have hci := h4 i (by omega)
      rw [show (⟨b, off, none⟩ : Addr).add i = ⟨b, off + i, none⟩ by unfold Addr.add; split <;> simp_all] at hci
      have hm : zs.getD i 0 ∈ zs := by
        rw [List.getD_eq_getElem?_getD, List.getElem?_eq_getElem (by omega)]
        exact List.getElem_mem _
      have hw := h5 _ hm
      have hr : 0 ≤ zs.getD i 0 ∧ zs.getD i 0 ≤ 255 := by simpa [Lit.wf, IntKind.min, IntKind.max, IntKind.signed, IntKind.bits] using hw
      refine ⟨b, off, rfl, World.block_lt_of_cell? w _ hci, (zs.getD i 0).toNat, by omega, ?_⟩
      rw [hci]
      congr 2
      omega
  have HB := Lib.hid hB
  clear h hB
  go_enter Try.func35, Try.ntmps35
  go_wp2
  go_ret
  refine ⟨rfl, ⟨a, len, cap, 0, 0, heap_alloc_new w _, by omega, by omega, hl, fun i hi => ?_⟩, (Below.refl _ _).alloc (Nat.le_refl _) _⟩
  obtain ⟨g, off, ha, hg, b, hb1, cb⟩ := HB.out i hi
  refine ⟨g, off, ha, hg, b, hb1, ?_⟩
  rw [← cb]
  exact World.cell?_of_block (a := ⟨g, off + i, none⟩) (Below.heap_alloc _ _ _ hg)

/-- What DrawSolveChinese answers. -/
def ChDraw (a m b n : Int) : Prop := (-5 ≤ a ∧ a ≤ 1002) ∧ (-5 ≤ m ∧ m ≤ 1001) ∧ (-5 ≤ b ∧ b ≤ 1002) ∧ (-5 ≤ n ∧ n ≤ 1001)

theorem ch_law (a m b n x all c : Int) (h : IsRes a m ∧ IsRes b n) (hv : chVal a m b n x all c) :
    ((b - a) % Int.gcd m n = 0 ∧ c = 0 ∧ 0 ≤ x ∧ x < all ∧ all ≤ 1000000 ∧ all * Int.gcd m n = m * n ∧ x % m = a ∧ x % n = b) ∨ (¬ (b - a) % Int.gcd m n = 0 ∧ c = 3) := by
  rcases hv with ⟨k, _⟩ | ⟨_, ⟨h1, h2, h3, h4, h5⟩, rfl⟩ | ⟨_, k, _, _, rfl⟩
  · exact absurd h k
  · left
    obtain ⟨M, N, e1, e2, e3, e4, _⟩ := div_gcd m n h.1.1 h.2.1
    have hb := (all_bd m n h.1.1 h.1.2.1 h.2.1 h.2.2.1).2.2.2
    refine ⟨ch_no a m b n x h4 h5, rfl, h1, h2, by omega, ?_, h4, h5⟩
    rw [h3, e3]
    conv => rhs; rw [e1]
    grind
  · exact .inr ⟨k, rfl⟩

theorem neg_zero (x y G : Int) (hG : 1 ≤ G) : (y - x) % G = 0 ↔ (x - y).tmod G = 0 := by
  rw [tmod_zero (x - y) G hG, ← Int.dvd_iff_emod_eq_zero, ← Int.dvd_iff_emod_eq_zero, show y - x = -(x - y) by omega, Int.dvd_neg]

end Go.Proofs.Ytocjdjgfadaljaa
