/- Draws in general: what they leave; lists. -/
import Derived.Test.YtigcgpgkpkoodaaDoorSrc
import Derived.Test.YtigcgpgkpkoodaaDoorArg
namespace Go.Proofs.YtigcgpgkpkoodaaDoor
open Go.RowKit
set_option linter.unusedVariables false

/-- Behind draws: the source is further; no other block has turned. -/
def DrawOut (w : World) (p : Nat) (m : Int) (w' : World) : Prop := Src w' p m ∧ w.grownBy w' (some p)
theorem NextOut.draw {w w' : World} {p : Nat} {m : Int} (h : NextOut w p m w') : DrawOut w p m w' := ⟨h.1, h.2.1⟩
theorem DrawOut.trans {w w' w'' : World} {p : Nat} {m m' : Int} (h : DrawOut w p m w') (h' : DrawOut w' p m' w'') : DrawOut w p m' w'' := by
  obtain ⟨a1, a2⟩ := h
  obtain ⟨b1, b2⟩ := h'
  exact ⟨b1, b2.os.trans a2.os, b2.tape.trans a2.tape, b2.output.trans a2.output, Nat.le_trans a2.size b2.size, fun k hk hne => (b2.block k (by have := a2.size; omega) hne).trans (a2.block k hk hne)⟩
theorem Src.lt {w : World} {p : Nat} {m : Int} (h : Src w p m) : p < w.heap.size := by
  obtain ⟨a, len, cap, at', seed, h, _⟩ := h
  exact (Array.getElem?_eq_some_iff.1 h).1
theorem Src.mono {w : World} {p : Nat} {m m' : Int} (h : Src w p m) (hm : m ≤ m') : Src w p m' := by
  obtain ⟨a, len, cap, at', seed, h, h0, h1, h2⟩ := h
  exact ⟨a, len, cap, at', seed, h, h0, by omega, h2⟩
theorem Src.alloc {w : World} {p : Nat} {m : Int} (h : Src w p m) (o : Obj) : Src (w.alloc o) p m := by
  have hp := h.lt
  obtain ⟨a, len, cap, at', seed, h, h0, h1, h2, hb⟩ := h
  refine ⟨a, len, cap, at', seed, by rw [Below.heap_alloc _ _ _ hp]; exact h, h0, h1, h2, fun i hi => ?_⟩
  obtain ⟨g, off, ha, hg, b, hb1, cb⟩ := hb i hi
  refine ⟨g, off, ha, hg, b, hb1, ?_⟩
  rw [← cb]
  exact World.cell?_of_block (a := ⟨g, off + i, none⟩) (Below.heap_alloc _ _ _ (by show g < _; omega))
theorem Src.drewN {w : World} {p : Nat} {m : Int} (h : Src w p m) (n : Nat) : Src (w.drewN n) p m := h
theorem DrawOut.refl {w : World} {p : Nat} {m : Int} (h : Src w p m) : DrawOut w p m w := ⟨h, rfl, rfl, rfl, Nat.le_refl _, fun _ _ _ => rfl⟩
theorem DrawOut.alloc {w w' : World} {p : Nat} {m : Int} (h : DrawOut w p m w') (o : Obj) : DrawOut w p m (w'.alloc o) :=
  h.trans ⟨h.1.alloc o, rfl, rfl, rfl, by simp, fun k hk _ => Below.heap_alloc _ _ _ hk⟩
theorem DrawOut.drewN {w w' : World} {p : Nat} {m : Int} (h : DrawOut w p m w') (n : Nat) : DrawOut w p m (w'.drewN n) := ⟨h.1, h.2.os, h.2.tape, h.2.output, h.2.size, h.2.block⟩
theorem DrawOut.mono {w w' : World} {p : Nat} {m m' : Int} (h : DrawOut w p m w') (hm : m ≤ m') : DrawOut w p m' w' := ⟨h.1.mono hm, h.2⟩
theorem DrawOut.below {w w' : World} {p : Nat} {m : Int} (h : DrawOut w p m w') (hp : p ≤ w.heap.size) : Below p w w' :=
  ⟨h.2.os, h.2.tape, h.2.output, h.2.size, fun k hk => h.2.block k (by omega) (by simp; omega)⟩

/-- A literal list. -/
theorem lit_ints (w : World) (xs : List Int) (T : TypeId) (h : xs.length ≤ 1000000) : IntsAt (w.alloc (.cells (xs.map (Value.int .i64)).toArray T)) (.slice (some ⟨w.heap.size, 0, none⟩) xs.length xs.length) xs := by
  refine ⟨by omega, .inr ⟨w.heap.size, 0, xs.length, rfl, fun j hj => ?_⟩⟩
  rw [Nat.zero_add, World.cell?_alloc_at _ _ _ _ rfl]
  simp [List.getD, List.getElem?_eq_getElem hj]

/-- A source is begun over the bytes that a law is given. -/
theorem from_any (w : World) (a : Option Addr) (len cap : Nat) (zs : List Int) (h : IsRow .u8 w a len cap zs) (hl : len ≤ 1048576) :
    Calls Tryd.prog 46 #[.slice a len cap] w fun e w' => e = .returned (.pointer (some ⟨w.heap.size, 0, none⟩)) ∧ Src w' w.heap.size 0 ∧ Below w.heap.size w w' := by
  have hB : BytesAt w w.heap.size a len := by
    intro i hi
    rcases h with ⟨rfl, rfl, _, _⟩ | ⟨⟨b, off, spot⟩, rfl, h1, h2, h3, h4, h5⟩
    · omega
    · have hc := h4 0 (by omega)
      have hspot : spot = none := by simpa [Addr.add] using World.cell?_spot hc
      subst hspot
      have hci := h4 i (by omega)
      rw [show (⟨b, off, none⟩ : Addr).add i = ⟨b, off + i, none⟩ by unfold Addr.add; split <;> simp_all] at hci
      have hm : zs.getD i 0 ∈ zs := by
        rw [List.getD_eq_getElem?_getD, List.getElem?_eq_getElem (by omega)]
        exact List.getElem_mem _
      have hw := h5 _ hm
      have hr : 0 ≤ zs.getD i 0 ∧ zs.getD i 0 ≤ 255 := by simpa [Lit.wf, IntKind.min, IntKind.max, IntKind.signed, IntKind.bits] using hw
      refine ⟨b, off, rfl, World.block_lt_of_cell? w _ hci, (zs.getD i 0).toNat, by omega, ?_⟩
      rw [hci]
      congr 2
      omega
  have HB := Lib.hid hB
  clear h hB
  go_enter Tryd.func46, Tryd.ntmps46
  go_wp2
  go_ret
  refine ⟨rfl, ⟨a, len, cap, 0, 0, heap_alloc_new w _, by omega, by omega, hl, fun i hi => ?_⟩, (Below.refl _ _).alloc (Nat.le_refl _) _⟩
  obtain ⟨g, off, ha, hg, b, hb1, cb⟩ := HB.out i hi
  refine ⟨g, off, ha, hg, b, hb1, ?_⟩
  rw [← cb]
  exact World.cell?_of_block (a := ⟨g, off + i, none⟩) (Below.heap_alloc _ _ _ hg)

theorem DrawOut.on {w w' w'' : World} {p : Nat} {m : Int} (h : DrawOut w p m w') (hb : Below w.heap.size w' w'') (hp : p < w.heap.size) : DrawOut w p m w'' := by
  obtain ⟨⟨a, len, cap, at', seed, h1, h2, h3, h4, hB⟩, hg⟩ := h
  refine ⟨⟨a, len, cap, at', seed, by rw [hb.block p hp]; exact h1, h2, h3, h4, fun i hi => ?_⟩, hb.os.trans hg.os, hb.tape.trans hg.tape, hb.output.trans hg.output, Nat.le_trans hg.size hb.size, fun k hk hne => (hb.block k hk).trans (hg.block k hk hne)⟩
  obtain ⟨g, off, ha, hg', b, hb1, cb⟩ := hB i hi
  exact ⟨g, off, ha, hg', b, hb1, by rw [hb.cell (p := ⟨g, off + i, none⟩) (show g < w.heap.size by omega)]; exact cb⟩
/-- A younger row is not touched by draws. -/
theorem Ints.draw {w w' : World} {B p : Nat} {m : Int} {v : Value} {xs : List Int} (h : Ints w B v xs) (hd : DrawOut w p m w') (hp : p < B) : Ints w' B v xs := by
  refine h.grown hd.2 ?_
  cases e : v.ownBlock with
  | none => exact .inl rfl
  | some k =>
    right
    have := (World.ownsRow.lt h k e).1
    simp; omega

end Go.Proofs.YtigcgpgkpkoodaaDoor
