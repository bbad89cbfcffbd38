/- The source of draws: what it gives lies in its range. -/
import Derived.Test.YtigcgpgkpkoodaaDoorSl
import Derived.RegionTactic
import Derived.ChangeAlike
import Derived.WalkLawsBesides
import Derived.Laws.BitsAllLaws
namespace Go.Proofs.YtigcgpgkpkoodaaDoor
open Go.RowKit
set_option linter.unusedVariables false

/-- The bytes of a source. -/
def BytesAt (w : World) (p : Nat) (a : Option Addr) (len : Nat) : Prop := ∀ i, i < len → ∃ g off, a = some ⟨g, off, none⟩ ∧ g < p ∧ ∃ b : Nat, b < 256 ∧ w.cell? ⟨g, off + i, none⟩ = some (.int .u8 b)
/-- Block p is a source from which at most m bytes have been read. -/
def Src (w : World) (p : Nat) (m : Int) : Prop := ∃ (a : Option Addr) (len cap : Nat) (at' seed : Int), w.heap[p]? = some (.cells #[.slice a len cap, .int .i64 at', .int .u64 seed] 77 (0, 0)) ∧
  0 ≤ at' ∧ at' ≤ m ∧ len ≤ 1048576 ∧ BytesAt w p a len

theorem cells3 {w : World} {p T : Nat} {x y z : Value} (h : w.heap[p]? = some (.cells #[x, y, z] T (0, 0))) :
    w.cell? ⟨p, 0, none⟩ = some x ∧ w.cell? ⟨p, 1, none⟩ = some y ∧ w.cell? ⟨p, 2, none⟩ = some z ∧ w.frozen? ⟨p, 1, none⟩ = false ∧ w.frozen? ⟨p, 2, none⟩ = false := by
  refine ⟨?_, ?_, ?_, ?_, ?_⟩ <;> simp [World.cell?, World.frozen?, h]

theorem set3 {w : World} {p T : Nat} {x y z y' z' : Value} (h : w.heap[p]? = some (.cells #[x, y, z] T (0, 0))) :
    ((w.setCell ⟨p, 1, none⟩ y').setCell ⟨p, 2, none⟩ z').heap[p]? = some (.cells #[x, y', z'] T (0, 0)) := by
  simp [World.setCell, Array.getElem?_modify, h]

/-- Behind a draw: the source is one further; nothing else has turned. -/
def NextOut (w : World) (p : Nat) (m : Int) (w' : World) : Prop := Src w' p m ∧ w.grownBy w' (some p) ∧ w'.heap.size = w.heap.size

theorem NextOut.trans {w w' w'' : World} {p : Nat} {m m' : Int} (h : NextOut w p m w') (h' : NextOut w' p m' w'') : NextOut w p m' w'' := by
  obtain ⟨a1, a2, a3⟩ := h
  obtain ⟨b1, b2, b3⟩ := h'
  exact ⟨b1, ⟨b2.os.trans a2.os, b2.tape.trans a2.tape, b2.output.trans a2.output, by omega, fun k hk hne => (b2.block k (by omega) hne).trans (a2.block k hk hne)⟩, by omega⟩

theorem next_out (w : World) (p : Nat) (m : Int) (a : Option Addr) (len cap : Nat) (at' seed : Int) (h : w.heap[p]? = some (.cells #[.slice a len cap, .int .i64 at', .int .u64 seed] 77 (0, 0)))
    (h0 : 0 ≤ at') (h1 : at' ≤ m) (hl : len ≤ 1048576) (hb : BytesAt w p a len) (z : Int) (k k' : Nat) :
    NextOut w p (m + 1) ((((w.drewN k).setCell ⟨p, 1, none⟩ (.int .i64 (at' + 1))).setCell ⟨p, 2, none⟩ (.int .u64 z)).drewN k') := by
  have hh : (((w.drewN k).setCell ⟨p, 1, none⟩ (.int .i64 (at' + 1))).setCell ⟨p, 2, none⟩ (.int .u64 z)).heap[p]? = _ := set3 (w := w.drewN k) h
  have hk : ∀ j, j ≠ p → (((w.drewN k).setCell ⟨p, 1, none⟩ (.int .i64 (at' + 1))).setCell ⟨p, 2, none⟩ (.int .u64 z)).heap[j]? = w.heap[j]? := fun j hj => by
    rw [Below.heap_setCell _ _ _ _ hj, Below.heap_setCell _ _ _ _ hj]; rfl
  refine ⟨⟨a, len, cap, at' + 1, z, hh, by omega, by omega, hl, fun i hi => ?_⟩, ⟨rfl, rfl, rfl, by simp [World.setCell], fun j _ hj => hk j (fun e => hj (by rw [e]))⟩, by simp [World.setCell]⟩
  obtain ⟨g, off, ha, hg, b, hb1, cb⟩ := hb i hi
  refine ⟨g, off, ha, hg, b, hb1, ?_⟩
  rw [← cb]
  exact World.cell?_of_block (a := ⟨g, off + i, none⟩) (hk g (by omega))

theorem and255 (x : Int) (hx : 0 ≤ x) (h2 : x < 18446744073709551616) : 0 ≤ bits .and .u64 x 255 ∧ bits .and .u64 x 255 ≤ 255 := by
  obtain ⟨n, rfl⟩ : ∃ n : Nat, x = n := ⟨x.toNat, by omega⟩
  rw [show (255 : Int) = ((255 : Nat) : Int) from rfl, u64_and_nat n 255 (by omega) (by omega)]
  have : n &&& 255 ≤ 255 := Nat.and_le_right
  omega

theorem mix_rng (y : Int) : 0 ≤ wrap64 (bits .and .u64 (IntKind.u64.wrap y / 1099511627776) 255) ∧ wrap64 (bits .and .u64 (IntKind.u64.wrap y / 1099511627776) 255) ≤ 255 := by
  have h := and255 (IntKind.u64.wrap y / 1099511627776) (by rw [IntKind.wrap_u64]; omega) (by rw [IntKind.wrap_u64]; omega)
  rw [IntWalk.wrap64_in _ (by omega)]
  exact h

theorem next_any (w : World) (p : Nat) (m : Int) (hs : Src w p m) (hm : m ≤ 1000000000000) :
    Calls Tryd.prog 90 #[.pointer (some ⟨p, 0, none⟩)] w fun e w' => ∃ v : Int, e = .returned (.int .i64 v) ∧ (0 ≤ v ∧ v ≤ 255) ∧ NextOut w p (m + 1) w' := by
  obtain ⟨a, len, cap, at', seed, h, h0, h1, hl, hb⟩ := hs
  have O := Lib.hid (next_out w p m a len cap at' seed h h0 h1 hl hb)
  obtain ⟨c0, c1, c2, f1, f2⟩ := cells3 h
  have HB := Lib.hid hb
  have hl' : (len : Int) ≤ 1048576 := by omega
  clear hb h
  by_cases hlt : at' < len
  · obtain ⟨n, rfl⟩ : ∃ n : Nat, at' = n := ⟨at'.toNat, by omega⟩
    obtain ⟨g, off, ha, hg, b, hb1, cb⟩ := HB.out n (by omega)
    subst ha
    have b1 : (b : Int) < 256 := by omega
    have b0 : (0 : Int) ≤ (b : Int) := by omega
    have hgp : ¬ g = p := by omega
    have hle : (n : Int) + 1 ≤ (len : Int) := by omega
    go_enter Tryd.func90, Tryd.ntmps90
    go_wp2
    go_quiet (fail)
    go_wp2
    go_quiet (fail)
    go_wp2
    go_quiet (fail)
    go_wp2
    go_ret
    exact ⟨_, rfl, ⟨by omega, by omega⟩, O.out _ _ _⟩
  · have hge : ¬ at' < (len : Int) := hlt
    have hT : decide (at' < (len : Int)) = false := by simpa using hge
    have hle : decide (at' + 1 ≤ (len : Int)) = false := by simp; omega
    go_enter Tryd.func90, Tryd.ntmps90
    go_wp2
    go_quiet (fail)
    go_wp2
    go_quiet (fail)
    go_wp2
    go_ret
    exact ⟨_, rfl, mix_rng _, O.out _ _ _⟩

/-- pick: a number from 0 to n - 1; 0 where n is 1 or less. -/
theorem pick_any (w : World) (p : Nat) (m n : Int) (hs : Src w p m) (hm : m ≤ 1000000000) (hn : n ≤ 1000000) :
    Calls Tryd.prog 81 #[.pointer (some ⟨p, 0, none⟩), .int .i64 n] w fun e w' => ∃ v : Int, e = .returned (.int .i64 v) ∧ (0 ≤ v ∧ (1 < n → v < n) ∧ (n ≤ 1 → v = 0)) ∧ NextOut w p (m + 2) w' := by
  have HS := Lib.hid hs
  have O0 := Lib.hid (show NextOut w p (m + 2) w from ⟨by obtain ⟨a, len, cap, at', seed, h, h0, h1, h2⟩ := hs; exact ⟨a, len, cap, at', seed, h, h0, by omega, h2⟩, ⟨rfl, rfl, rfl, Nat.le_refl _, fun _ _ _ => rfl⟩, rfl⟩)
  clear hs
  by_cases h1 : n ≤ 1
  · go_enter Tryd.func81, Tryd.ntmps81
    go_wp2
    go_ret
    exact ⟨0, rfl, ⟨by omega, fun h => by omega, fun _ => rfl⟩, O0.out⟩
  · have h1' : 1 < n := by omega
    have z1 : ¬ n = 0 := by omega
    by_cases h2 : 200 < n
    · go_enter Tryd.func81, Tryd.ntmps81
      go_wp2_with fail
      refine (next_any _ p m HS.out (by omega)).mono ?_
      rintro e w1 ⟨v, rfl, ⟨v0, v1⟩, o1⟩
      have O1 := Lib.hid o1
      clear o1
      go_wp2_with fail
      refine (next_any _ p (m + 1) O1.out.1 (by omega)).mono ?_
      rintro e w2 ⟨u, rfl, ⟨u0, u1⟩, o2⟩
      have O2 := Lib.hid (show NextOut w p (m + 2) w2 by have := O1.out.trans o2; rwa [show m + 1 + 1 = m + 2 by omega] at this)
      have m0 := Int.emod_nonneg (v * 256 + u) z1
      have m1 := Int.emod_lt_of_pos (v * 256 + u) (show 0 < n by omega)
      clear o2
      go_wp2
      go_ret
      exact ⟨_, rfl, ⟨m0, fun _ => m1, fun h => by omega⟩, O2.out⟩
    · go_enter Tryd.func81, Tryd.ntmps81
      go_wp2_with fail
      refine (next_any _ p m HS.out (by omega)).mono ?_
      rintro e w1 ⟨v, rfl, ⟨v0, v1⟩, o1⟩
      have O1 := Lib.hid (show NextOut w p (m + 2) w1 by obtain ⟨⟨a, len, cap, at', seed, h, h0, h1, h2⟩, o2⟩ := o1; exact ⟨⟨a, len, cap, at', seed, h, h0, by omega, h2⟩, o2⟩)
      have m0 := Int.emod_nonneg v z1
      have m1 := Int.emod_lt_of_pos v (show 0 < n by omega)
      clear o1
      go_wp2
      go_ret
      exact ⟨_, rfl, ⟨m0, fun _ => m1, fun h => by omega⟩, O1.out⟩

theorem one_any (w : World) (p : Nat) (m n : Int) (hs : Src w p m) (hm : m ≤ 1000000000) (hn : n ≤ 1000000) :
    Calls Tryd.prog 91 #[.pointer (some ⟨p, 0, none⟩), .int .i64 n] w fun e w' => ∃ b : Bool, e = .returned (.bool b) ∧ NextOut w p (m + 2) w' := by
  have HS := Lib.hid hs
  clear hs
  go_enter Tryd.func91, Tryd.ntmps91
  go_wp2_with fail
  refine (pick_any _ p m n HS.out hm hn).mono ?_
  rintro e w1 ⟨v, rfl, _, o1⟩
  have O1 := Lib.hid o1
  clear o1
  go_wp2
  go_ret
  exact ⟨_, rfl, O1.out⟩

/-- among: one of some numbers. -/
theorem among_any (w : World) (p : Nat) (m : Int) (hs : Src w p m) (hm : m ≤ 1000000000) (u : Value) (xs : List Int) (hu : IntsAt w u xs) (hx : 1 ≤ xs.length) (hx' : xs.length ≤ 1000000) (hp : ∀ b, u.ownBlock = some b → b ≠ p) :
    Calls Tryd.prog 66 #[.pointer (some ⟨p, 0, none⟩), u] w fun e w' => ∃ v : Int, e = .returned (.int .i64 v) ∧ v ∈ xs ∧ NextOut w p (m + 2) w' := by
  have HS := Lib.hid hs
  obtain ⟨hl, ⟨rfl, _⟩ | ⟨g, off, cap, rfl, hc⟩⟩ := hu
  · simp at hx
  have hgp : g ≠ p := hp g rfl
  have HC := Lib.hid hc
  obtain ⟨n, hn⟩ : ∃ n, xs.length = n := ⟨_, rfl⟩
  have HN := Lib.hid hn
  rw [hn] at hl hx hx' ⊢
  clear hs hc hn hp
  go_enter Tryd.func66, Tryd.ntmps66
  go_wp2_with fail
  refine (pick_any _ p m n HS.out hm (by omega)).mono ?_
  rintro e w1 ⟨v, rfl, hv, o1⟩
  have hv2 : 0 ≤ v ∧ v < n := by
    by_cases h : n = 1
    · have := hv.2.2 (by omega); omega
    · exact ⟨hv.1, hv.2.1 (by omega)⟩
  obtain ⟨k, rfl⟩ : ∃ k : Nat, v = k := ⟨v.toNat, by omega⟩
  have O1 := Lib.hid o1
  have k1 : k < n := by omega
  have c0 := HC.out k (by rw [HN.out]; exact k1)
  have c1 : w1.cell? ⟨g, off + k, none⟩ = some (.int .i64 (xs.getD k 0)) := by
    rw [← c0]
    refine World.cell?_of_block (a := ⟨g, off + k, none⟩) (o1.2.1.block g ?_ (by simpa using hgp))
    exact World.block_lt_of_cell? w _ c0
  obtain ⟨x, hx0⟩ : ∃ x, xs.getD k 0 = x := ⟨_, rfl⟩
  have HM := Lib.hid (show x ∈ xs by
    rw [← hx0, List.getD_eq_getElem?_getD, List.getElem?_eq_getElem (by rw [HN.out]; exact k1)]
    exact List.getElem_mem _)
  rw [hx0] at c1
  have i1 : (0 : Int) ≤ (k : Int) := by omega
  have i2 : (k : Int) < (n : Int) := by omega
  clear o1 hv hv2 c0 hx0
  go_wp2
  go_ret
  exact ⟨x, rfl, HM.out, O1.out⟩
end Go.Proofs.YtigcgpgkpkoodaaDoor
