/- Draws of moduli, residues, and what a law begins with. -/
import Derived.Test.YtninajgnmogmeaaSrc
import Derived.Test.YtninajgnmogmeaaChin2
namespace Go.Proofs.Ytninajgnmogmeaa
open Go.RowKit
set_option linter.unusedVariables false

/-- Behind draws: the source is further; no other block has turned. -/
def DrawOut (w : World) (p : Nat) (m : Int) (w' : World) : Prop := Src w' p m ∧ w.grownBy w' (some p)
theorem NextOut.draw {w w' : World} {p : Nat} {m : Int} (h : NextOut w p m w') : DrawOut w p m w' := ⟨h.1, h.2.1⟩
theorem DrawOut.trans {w w' w'' : World} {p : Nat} {m m' : Int} (h : DrawOut w p m w') (h' : DrawOut w' p m' w'') : DrawOut w p m' w'' := by
  obtain ⟨a1, a2⟩ := h
  obtain ⟨b1, b2⟩ := h'
  exact ⟨b1, b2.os.trans a2.os, b2.tape.trans a2.tape, b2.output.trans a2.output, Nat.le_trans a2.size b2.size, fun k hk hne => (b2.block k (by have := a2.size; omega) hne).trans (a2.block k hk hne)⟩
theorem Src.lt {w : World} {p : Nat} {m : Int} (h : Src w p m) : p < w.heap.size := by
  obtain ⟨a, len, cap, at', seed, h, _⟩ := h
  exact (Array.getElem?_eq_some_iff.1 h).1
theorem Src.mono {w : World} {p : Nat} {m m' : Int} (h : Src w p m) (hm : m ≤ m') : Src w p m' := by
  obtain ⟨a, len, cap, at', seed, h, h0, h1, h2⟩ := h
  exact ⟨a, len, cap, at', seed, h, h0, by omega, h2⟩
theorem Src.alloc {w : World} {p : Nat} {m : Int} (h : Src w p m) (o : Obj) : Src (w.alloc o) p m := by
  have hp := h.lt
  obtain ⟨a, len, cap, at', seed, h, h0, h1, h2, hb⟩ := h
  refine ⟨a, len, cap, at', seed, by rw [Below.heap_alloc _ _ _ hp]; exact h, h0, h1, h2, fun i hi => ?_⟩
  obtain ⟨g, off, ha, hg, b, hb1, cb⟩ := hb i hi
  refine ⟨g, off, ha, hg, b, hb1, ?_⟩
  rw [← cb]
  exact World.cell?_of_block (a := ⟨g, off + i, none⟩) (Below.heap_alloc _ _ _ (by show g < _; omega))
theorem Src.drewN {w : World} {p : Nat} {m : Int} (h : Src w p m) (n : Nat) : Src (w.drewN n) p m := h
theorem DrawOut.refl {w : World} {p : Nat} {m : Int} (h : Src w p m) : DrawOut w p m w := ⟨h, rfl, rfl, rfl, Nat.le_refl _, fun _ _ _ => rfl⟩
theorem DrawOut.alloc {w w' : World} {p : Nat} {m : Int} (h : DrawOut w p m w') (o : Obj) : DrawOut w p m (w'.alloc o) :=
  h.trans ⟨h.1.alloc o, rfl, rfl, rfl, by simp, fun k hk _ => Below.heap_alloc _ _ _ hk⟩
theorem DrawOut.drewN {w w' : World} {p : Nat} {m : Int} (h : DrawOut w p m w') (n : Nat) : DrawOut w p m (w'.drewN n) := ⟨h.1, h.2.os, h.2.tape, h.2.output, h.2.size, h.2.block⟩
theorem DrawOut.mono {w w' : World} {p : Nat} {m m' : Int} (h : DrawOut w p m w') (hm : m ≤ m') : DrawOut w p m' w' := ⟨h.1.mono hm, h.2⟩
theorem DrawOut.below {w w' : World} {p : Nat} {m : Int} (h : DrawOut w p m w') (hp : p ≤ w.heap.size) : Below p w w' :=
  ⟨h.2.os, h.2.tape, h.2.output, h.2.size, fun k hk => h.2.block k (by omega) (by simp; omega)⟩

/-- A literal list. -/
theorem lit_ints (w : World) (xs : List Int) (T : TypeId) (h : xs.length ≤ 1000000) : IntsAt (w.alloc (.cells (xs.map (Value.int .i64)).toArray T)) (.slice (some ⟨w.heap.size, 0, none⟩) xs.length xs.length) xs := by
  refine ⟨by omega, .inr ⟨w.heap.size, 0, xs.length, rfl, fun j hj => ?_⟩⟩
  rw [Nat.zero_add, World.cell?_alloc_at _ _ _ _ rfl]
  simp [List.getD, List.getElem?_eq_getElem hj]

theorem drawMod (w : World) (p : Nat) (m : Int) (hs : Src w p m) (hm : m ≤ 100000000) :
    Calls Try.prog 65 #[.pointer (some ⟨p, 0, none⟩)] w fun e w' => ∃ v : Int, e = .returned (.int .i64 v) ∧ (-5 ≤ v ∧ v ≤ 1001) ∧ DrawOut w p (m + 4) w' := by
  have HS := Lib.hid hs
  clear hs
  go_enter Try.func65, Try.ntmps65
  go_wp2_with fail
  refine (pick_any _ p m 6 HS.out (by omega) (by omega)).mono ?_
  rintro e w1 ⟨v, rfl, ⟨v0, v1, _⟩, o1⟩
  have hv := v1 (by omega)
  have O1 := Lib.hid o1.draw
  clear o1 v1
  have hp1 := O1.out.1.lt
  by_cases e0 : v = 0
  · subst e0
    go_wp2_with fail
    refine (among_any _ p (m + 2) (O1.out.1.alloc _) (by omega) _ [0, 1, 2, 1000, 1001, -5] (lit_ints w1 [0, 1, 2, 1000, 1001, -5] _ (by decide)) (by decide) (by decide) (fun b hb => by simp [Value.ownBlock] at hb; omega)).mono ?_
    rintro e w2 ⟨u, rfl, hu, o2⟩
    have hr : -5 ≤ u ∧ u ≤ 1001 := by simp at hu; omega
    have O2 := Lib.hid ((O1.out.alloc _).trans o2.draw)
    clear o2 hu
    go_wp2
    go_ret
    exact ⟨u, rfl, hr, O2.out.mono (by omega)⟩
  · by_cases e1 : v = 1
    · subst e1
      go_wp2_with fail
      refine (among_any _ p (m + 2) (O1.out.1.alloc _) (by omega) _ [7, 11, 13, 31, 997, 256, 360] (lit_ints w1 [7, 11, 13, 31, 997, 256, 360] _ (by decide)) (by decide) (by decide) (fun b hb => by simp [Value.ownBlock] at hb; omega)).mono ?_
      rintro e w2 ⟨u, rfl, hu, o2⟩
      have hr : -5 ≤ u ∧ u ≤ 1001 := by simp at hu; omega
      have O2 := Lib.hid ((O1.out.alloc _).trans o2.draw)
      clear o2 hu
      go_wp2
      go_ret
      exact ⟨u, rfl, hr, O2.out.mono (by omega)⟩
    · have t0 : (v == 0) = false := by simpa using e0
      have t1 : (v == 1) = false := by simpa using e1
      by_cases e2 : v = 2
      · subst e2
        go_wp2_with fail
        refine (pick_any _ p (m + 2) 1000 O1.out.1 (by omega) (by omega)).mono ?_
        rintro e w2 ⟨u, rfl, ⟨u0, u1, _⟩, o2⟩
        have hu := u1 (by omega)
        have O2 := Lib.hid (O1.out.trans o2.draw)
        clear o2 u1
        go_wp2
        go_ret
        exact ⟨_, rfl, ⟨by omega, by omega⟩, O2.out.mono (by omega)⟩
      · have t2 : (v == 2) = false := by simpa using e2
        clear e0 e1 e2
        go_wp2_with fail
        refine (pick_any _ p (m + 2) 24 O1.out.1 (by omega) (by omega)).mono ?_
        rintro e w2 ⟨u, rfl, ⟨u0, u1, _⟩, o2⟩
        have hu := u1 (by omega)
        have O2 := Lib.hid (O1.out.trans o2.draw)
        clear o2 u1
        go_wp2
        go_ret
        exact ⟨_, rfl, ⟨by omega, by omega⟩, O2.out.mono (by omega)⟩
end Go.Proofs.Ytninajgnmogmeaa
