/- SignOf: the program. -/
import Derived.Test.YtcgmencdadinbaaIrc
import Derived.Test.YtcgmencdadinbaaSs
namespace Go.Proofs.Ytcgmencdadinbaa
open Go.RowKit Go.Shelf
set_option linter.unusedVariables false
attribute [local go_sem] Oper.semAt_some

theorem cell_box (w : World) (v : Value) (T : TypeId) : (w.alloc (.cells #[v] T)).heap[w.heap.size]? = some (.cells #[v] T (0, 0)) := heap_alloc_new w _
/-- A variable in a block of its own. -/
def Box (w : World) (T : TypeId) (b : Nat) (v : Value) : Prop := w.heap[b]? = some (.cells #[v] T (0, 0))
theorem Box.cell {w : World} {T : TypeId} {b : Nat} {v : Value} (h : Box w T b v) : w.cell? ⟨b, 0, none⟩ = some v := by rw [cell_of_row w b 0 _ _ _ h]; rfl
theorem Box.frozen {w : World} {T : TypeId} {b : Nat} {v : Value} (h : Box w T b v) : w.frozen? ⟨b, 0, none⟩ = false := frozen_of_row w b 0 _ _ h
theorem Box.set {w : World} {T : TypeId} {b : Nat} {v u : Value} (h : Box w T b v) : Box (w.setCell ⟨b, 0, none⟩ u) T b u := by
  unfold Box
  rw [heap_setCell_same w b 0 _ _ _ h]; rfl
theorem Box.lt {w : World} {T : TypeId} {b : Nat} {v : Value} (h : Box w T b v) : b < w.heap.size := (Array.getElem?_eq_some_iff.1 h).1
theorem Box.below {w w' : World} {T : TypeId} {b B : Nat} {v : Value} (h : Box w T b v) (hb : Below B w w') (hB : b < B) : Box w' T b v := (hb.block b hB).trans h

set_option maxRecDepth 100000 in
set_option maxHeartbeats 2000000 in
theorem iSignOf (xs : List Int) (hx : SmallL xs) (W : World) (v : Value) (hv : IntsC W v xs) :
    Calls Try.prog 45 #[v] W fun e w' => e = .returned (.int .i64 (SignOf_0 xs)) ∧ Below W.heap.size W w' := by
  have HX := Lib.hid (iok W v xs hv)
  cases hp : pmB xs with
  | false =>
    have V := Lib.hid (SignOf_bad hp)
    rw [hp] at HX
    clear hp hv
    go_enter Try.func45, Try.ntmps45
    go_wp2_with fail
    refine HX.out.mono ?_
    rintro e w1 ⟨rfl, b1⟩
    have B1 := Lib.hid b1
    clear b1
    go_wp2
    go_ret
    exact ⟨by rw [V.out]; rfl, B1.out⟩
  | true =>
    have V := Lib.hid (SignOf_ok hp)
    rw [hp] at HX
    have hmf : ∀ (fn : Fn) (first cap : Array Value) (w : World), (Instr.makeFunc fn first cap).run Try.prog w = .ok (.func fn first cap) w := fun _ _ _ _ => rfl
    have LN := cyclesL_len (perm01 hp)
    have l32 := (of_pmB hp).1
    refine (callsIn_wide (n := 3)).1 ?_
    refine callsIn_of_wp_marks Try.func45 rfl trivial ?_ rfl
    simp only [Try.ntmps45, List.size_toArray, List.length_cons, List.length_nil, Nat.reduceAdd, Nat.reduceSub, Array.replicate_succ, Array.replicate_zero, List.push_toArray, List.append_toArray, List.nil_append, List.cons_append]
    gi_wp2_with fail
    refine ⟨trivial, ?_⟩
    refine (callsIn_wide.2 HX.out).mono ?_
    rintro e w1 ⟨rfl, b1⟩
    have B1 := Lib.hid b1
    clear b1
    gi_wp2
    obtain ⟨b, hb⟩ : ∃ b, w1.heap.size = b := ⟨_, rfl⟩
    have Z0 : Hid (Box (w1.alloc (.cells #[.int .i64 1] 2)) 2 b (.int .i64 1)) := by rw [← hb]; exact cell_box _ _ _
    have Z1 : Hid (Below W.heap.size W (w1.alloc (.cells #[.int .i64 1] 2))) := B1.out.alloc B1.out.size _
    have Z2 : (w1.alloc (.cells #[.int .i64 1] 2)).heap.size = b + 1 := by rw [World.size_alloc, hb]
    have Z3 : W.heap.size ≤ b := by have := B1.out.size; omega
    obtain ⟨wb, hwb⟩ : ∃ wb, w1.alloc (.cells #[.int .i64 1] 2) = wb := ⟨_, rfl⟩
    rw [hb]
    rw [hwb] at Z0 Z1 Z2 ⊢
    clear hwb hb
    refine range_cycles W W.heap.size v xs rfl (by omega) Z1.out (fun W' h => hv.below h (Nat.le_refl _)) hp
      (fun pre Ow W' => Box W' 2 b (.int .i64 (sgnL (pre.map Prod.snd))))
      (fun pre Ow A B h hb _ => h.below hb (by omega)) Z0.out
      (fun x => { tmps := #[v, undef, .int .i64 0, .pointer (some ⟨b, 0, none⟩), x, v, .bool true, .bool false, v, .func (.func 65) #[v] #[], x, undef, undef, undef, undef, undef, undef, undef], defers := [] }) ?assign ?body ?done
    case assign =>
      intro l x W' K hK
      gi_wp2
      exact hK
    case body =>
      rintro l pre Ow ⟨xv, ys⟩ W' hB pf xl hb hs ix fr ol
      obtain ⟨xa, xc, rfl⟩ : ∃ a c, xv = .slice a ys.length c := ix.c.shape
      have SN : sgnL ((pre ++ [(Value.slice xa ys.length xc, ys)]).map Prod.snd) = if ys.length % 2 = 0 then - sgnL (pre.map Prod.snd) else sgnL (pre.map Prod.snd) := by rw [List.map_append, List.map_singleton, sgnL_snoc]
      have S1 := sgnL_one (pre.map Prod.snd)
      obtain ⟨z, hz⟩ : ∃ z, sgnL (pre.map Prod.snd) = z := ⟨_, rfl⟩
      rw [hz] at SN S1 hB
      have HB := Lib.hid hB
      have hbc := hB.cell
      have hbf := hB.frozen
      have hbl := hB.lt
      have xl' : ys.length ≤ 32 := by simp only at xl; omega
      obtain ⟨k, hk⟩ : ∃ k, ys.length = k := ⟨_, rfl⟩
      rw [hk] at SN xl'
      have w4 := IntWalk.i64_in (-z) (by omega)
      have w5 : IntKind.i64.wrap ((k : Int).tmod 2) = ((k % 2 : Nat) : Int) := by rw [Int.tmod_eq_emod_of_nonneg (by omega)]; exact IntWalk.i64_in _ (by omega)
      have HS := Lib.hid SN
      have OL := Lib.hid ol
      simp only [hk]
      clear SN pf xl hb ix fr hk hz hB ol
      by_cases ev : k % 2 = 0
      · have g2 : ((k % 2 : Nat) == 0) = true := by simpa using ev
        have g2' : (((k % 2 : Nat) : Int) == 0) = true := by simp; omega
        gi_wp2
        refine ⟨Ow, fun k h => .inl h, fun k h => Nat.lt_of_lt_of_le (OL.out k h) (by simp [World.setCell]), ?_, (Below.refl _ _).setCell (p := ⟨b, 0, none⟩) Z3 _, fun k kn _ _ => Below.heap_setCell W' ⟨b, 0, none⟩ _ k (by simp only; omega)⟩
        show Box _ 2 b (.int .i64 (sgnL ((pre ++ [(Value.slice xa k xc, ys)]).map Prod.snd)))
        rw [HS.out, if_pos ev]
        exact HB.out.set
      · have g2 : ((k % 2 : Nat) == 0) = false := by simpa using ev
        have g2' : (((k % 2 : Nat) : Int) == 0) = false := by simp; omega
        gi_wp2
        refine ⟨Ow, fun k h => .inl h, OL.out, ?_, Below.refl _ _, fun _ _ _ _ => rfl⟩
        show Box _ 2 b (.int .i64 (sgnL ((pre ++ [(Value.slice xa k xc, ys)]).map Prod.snd)))
        rw [HS.out, if_neg ev]
        exact HB.out
    case done =>
      rintro D pre Ow W' hD hm hB hb hc hK
      have hbc := hB.cell
      rw [hm] at hbc
      gi_wp2
      refine ⟨by simp, .inl ⟨_, _, rfl, run_takeDeferred hK, ?_⟩⟩
      exact ⟨_, results_tmp rfl _ _ _, by rw [V.out]; rfl, hb.trans (below_putObj W' D _ (by omega))⟩
end Go.Proofs.Ytcgmencdadinbaa
