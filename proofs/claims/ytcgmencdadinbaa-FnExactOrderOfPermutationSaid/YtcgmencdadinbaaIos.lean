/- OrderOfPermutation: the program. -/
import Derived.Shelf.RegionOpen
import Derived.Test.YtcgmencdadinbaaIss
import Derived.Test.YtcgmencdadinbaaOs
namespace Go.Proofs.Ytcgmencdadinbaa
open Go.RowKit Go.Shelf
set_option linter.unusedVariables false
attribute [local go_sem] Oper.semAt_some

set_option maxRecDepth 100000 in
set_option maxHeartbeats 2000000 in
theorem iOrderOfPermutation (xs : List Int) (hx : SmallL xs) (W : World) (v : Value) (hv : IntsC W v xs) :
    Calls Try.prog 43 #[v] W fun e w' => e = .returned (.int .i64 (OrderOfPermutation_0 xs)) ∧ Below W.heap.size W w' := by
  have HX := Lib.hid (iok W v xs hv)
  cases hp : pmB xs with
  | false =>
    have V := Lib.hid (Order_bad hp)
    rw [hp] at HX
    clear hp hv
    go_enter Try.func43, Try.ntmps43
    go_wp2_with fail
    refine HX.out.mono ?_
    rintro e w1 ⟨rfl, b1⟩
    have B1 := Lib.hid b1
    clear b1
    go_wp2
    go_ret
    exact ⟨by rw [V.out]; rfl, B1.out⟩
  | true =>
    have V := Lib.hid (Order_ok hp)
    rw [hp] at HX
    have hmf : ∀ (fn : Fn) (first cap : Array Value) (w : World), (Instr.makeFunc fn first cap).run Try.prog w = .ok (.func fn first cap) w := fun _ _ _ _ => rfl
    have LN := cyclesL_len (perm01 hp)
    have l32 := (of_pmB hp).1
    refine (callsIn_wide (n := 3)).1 ?_
    refine callsIn_of_wp_marks Try.func43 rfl trivial ?_ rfl
    simp only [Try.ntmps43, List.size_toArray, List.length_cons, List.length_nil, Nat.reduceAdd, Nat.reduceSub, Array.replicate_succ, Array.replicate_zero, List.push_toArray, List.append_toArray, List.nil_append, List.cons_append]
    gi_wp2_with fail
    refine ⟨trivial, ?_⟩
    refine (callsIn_wide.2 HX.out).mono ?_
    rintro e w1 ⟨rfl, b1⟩
    have B1 := Lib.hid b1
    clear b1
    gi_wp2
    obtain ⟨b, hb⟩ : ∃ b, w1.heap.size = b := ⟨_, rfl⟩
    have Z0 : Hid (Box (w1.alloc (.cells #[.int .i64 1] 2)) 2 b (.int .i64 1)) := by rw [← hb]; exact cell_box _ _ _
    have Z1 : Hid (Below W.heap.size W (w1.alloc (.cells #[.int .i64 1] 2))) := B1.out.alloc B1.out.size _
    have Z2 : (w1.alloc (.cells #[.int .i64 1] 2)).heap.size = b + 1 := by rw [World.size_alloc, hb]
    have Z3 : W.heap.size ≤ b := by have := B1.out.size; omega
    obtain ⟨wb, hwb⟩ : ∃ wb, w1.alloc (.cells #[.int .i64 1] 2) = wb := ⟨_, rfl⟩
    rw [hb]
    rw [hwb] at Z0 Z1 Z2 ⊢
    clear hwb hb
    refine range_cycles W W.heap.size v xs rfl (by omega) Z1.out (fun W' h => hv.below h (Nat.le_refl _)) hp
      (fun pre Ow W' => Box W' 2 b (.int .i64 (ordL (pre.map Prod.snd) : Nat)))
      (fun pre Ow A B h hb _ => h.below hb (by omega)) Z0.out
      (fun x => { tmps := #[v, undef, .int .i64 0, .pointer (some ⟨b, 0, none⟩), x, undef, v, .bool true, .bool false, v, .func (.func 65) #[v] #[], x, undef, undef, undef, undef, undef, undef, undef, undef, undef, undef], defers := [] }) ?assign ?body ?done
    case assign =>
      intro l x W' K hK
      gi_wp2
      exact hK
    case body =>
      rintro l pre Ow ⟨xv, ys⟩ W' hB pf xl hb hs ix fr ol
      obtain ⟨xa, xc, rfl⟩ : ∃ a c, xv = .slice a ys.length c := ix.c.shape
      have P1 := ordL_pre hp ((List.prefix_append pre _).map Prod.snd |>.trans pf)
      have P2 := ordL_pre hp pf
      have nn := cyclesL_one hp ys (pf.subset (by simp))
      have SN : ordL ((pre ++ [(Value.slice xa ys.length xc, ys)]).map Prod.snd) = ordL (pre.map Prod.snd) * (ys.length / Nat.gcd (ordL (pre.map Prod.snd)) ys.length) := by rw [List.map_append, List.map_singleton, ordL_snoc]
      rw [SN] at P2
      obtain ⟨z, hz⟩ : ∃ z, ordL (pre.map Prod.snd) = z := ⟨_, rfl⟩
      rw [hz] at SN hB P1 P2
      have HB := Lib.hid hB
      have hbc := hB.cell
      have hbf := hB.frozen
      have hbl := hB.lt
      obtain ⟨k, hk⟩ : ∃ k, ys.length = k := ⟨_, rfl⟩
      rw [hk] at SN P2 nn
      have HG : Hid (∀ W : World, Calls Try.prog 72 #[.int .i64 (z : Nat), .int .i64 (k : Nat)] W fun e w' => e = .returned (.int .i64 (Nat.gcd z k : Nat)) ∧ ∃ d, w' = W.drewN d) := fun W => by
        have := igcd (z : Int) (k : Int) W
        rwa [gcdOf_in (by unfold GcdIn; omega), Int.gcd_natCast_natCast] at this
      have gp : 0 < Nat.gcd z k := Nat.gcd_pos_of_pos_left _ (by omega)
      obtain ⟨G, hG⟩ : ∃ G, Nat.gcd z k = G := ⟨_, rfl⟩
      rw [hG] at HG gp SN P2
      have dk : k / G ≤ k := Nat.div_le_self _ _
      obtain ⟨D, hD⟩ : ∃ D, k / G = D := ⟨_, rfl⟩
      rw [hD] at dk SN P2
      obtain ⟨E, hE⟩ : ∃ E, z * D = E := ⟨_, rfl⟩
      rw [hE] at SN P2
      have e4 : (k : Int).tdiv (G : Int) = (D : Int) := by rw [Int.tdiv_eq_ediv_of_nonneg (by omega), ← Int.natCast_ediv, hD]
      have w4 : IntKind.i64.wrap ((k : Int).tdiv (G : Int)) = (D : Int) := by rw [e4]; exact IntWalk.i64_in _ (by omega)
      have w5 : IntKind.i64.wrap ((z : Int) * (D : Int)) = (E : Int) := by rw [← Int.natCast_mul, hE]; exact IntWalk.i64_in _ (by omega)
      have W4 : Hid (wrap64 ((k : Int) / (G : Int)) = (D : Int)) := by
        unfold Hid
        rw [show (k : Int) / (G : Int) = (D : Int) by rw [← hD]; exact (Int.natCast_ediv k G).symm]
        unfold wrap64; omega
      have W5 : Hid (wrap64 ((z : Int) * (D : Int)) = (E : Int)) := by
        unfold Hid
        rw [← Int.natCast_mul, hE]
        unfold wrap64; omega
      have gz : ((G : Int) == 0) = false := by simp; omega
      have gz' : (G == 0) = false := by simp; omega
      have HS := Lib.hid SN
      have OL := Lib.hid ol
      simp only [hk]
      clear SN pf xl hb ix fr hk hz hB ol hG hD hE e4
      gi_wp2_with fail
      have hmx : Try.prog.follows .mixedOrders = true := by kernel_rfl
      gi_region_with_o (refine ⟨trivial, ?_⟩; gi_at_call 72; refine (CallsIn.inRound l (callsIn_wide.2 (HG.out _))).mono ?_; rintro e w' ⟨rfl, dd, rfl⟩)
      all_goals gi_wp2
      all_goals (try go_bits)
      all_goals rw [W4.out, W5.out]
      all_goals refine ⟨Ow, fun k h => .inl h, fun k h => Nat.lt_of_lt_of_le (OL.out k h) (by simp [World.setCell]), ?_, (Go.below_drewN (Below.refl _ W') _).setCell (p := ⟨b, 0, none⟩) Z3 _, fun k kn _ _ => Below.heap_setCell (W'.drewN _) ⟨b, 0, none⟩ _ k (by show k ≠ b; omega)⟩
      all_goals show Box _ 2 b (.int .i64 (ordL ((pre ++ [(Value.slice xa k xc, ys)]).map Prod.snd) : Nat))
      all_goals rw [HS.out]
      all_goals exact Box.set (w := W'.drewN _) HB.out
    case done =>
      rintro D pre Ow W' hD hm hB hb hc hK
      have hbc := hB.cell
      rw [hm] at hbc
      gi_wp2
      refine ⟨by simp, .inl ⟨_, _, rfl, run_takeDeferred hK, ?_⟩⟩
      exact ⟨_, results_tmp rfl _ _ _, by rw [V.out]; rfl, hb.trans (below_putObj W' D _ (by omega))⟩
end Go.Proofs.Ytcgmencdadinbaa
