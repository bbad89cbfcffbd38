/- tripleSystemOf and IsTripleSystem: the program's. -/
import Derived.Test.YtanfodbpgpfjmabDoorTrm
namespace Go.Proofs.YtanfodbpgpfjmabDoor
open Go.RowKit Go.Shelf
set_option linter.unusedVariables false
set_option linter.unusedSimpArgs false

theorem Tryd.infoTs : (Tryd.prog.info? 47).map (·.size) = some 3 := by kernel_rfl
theorem three (W : World) (g : Nat) (z0 z1 z2 a b c : Value) (T : TypeId) (h : W.heap[g]? = some (.cells #[z0, z1, z2] T (0, 0))) :
    (((W.setCell ⟨g, 0, none⟩ a).setCell ⟨g, 1, none⟩ b).setCell ⟨g, 2, none⟩ c).heap[g]? = some (.cells #[a, b, c] T (0, 0)) ∧
    (∀ B w, B ≤ g → Below B w W → Below B w (((W.setCell ⟨g, 0, none⟩ a).setCell ⟨g, 1, none⟩ b).setCell ⟨g, 2, none⟩ c)) ∧
    (∀ i, i ≠ g → (((W.setCell ⟨g, 0, none⟩ a).setCell ⟨g, 1, none⟩ b).setCell ⟨g, 2, none⟩ c).heap[i]? = W.heap[i]?) := by
  have h0 := heap_setCell_same W g 0 _ _ a h
  have h1 := heap_setCell_same _ g 1 _ _ b h0
  have h2 := heap_setCell_same _ g 2 _ _ c h1
  refine ⟨h2.trans rfl, fun B w hB hb => ((hb.setCell (p := ⟨g, 0, none⟩) hB _).setCell (p := ⟨g, 1, none⟩) hB _).setCell (p := ⟨g, 2, none⟩) hB _, fun i hi => ?_⟩
  rw [Below.heap_setCell _ _ _ i hi, Below.heap_setCell _ _ _ i hi, Below.heap_setCell _ _ _ i hi]
theorem cells3 (W : World) (g : Nat) (z0 z1 z2 : Value) (T : TypeId) (h : W.heap[g]? = some (.cells #[z0, z1, z2] T (0, 0))) :
    W.cell? ⟨g, 0, none⟩ = some z0 ∧ W.cell? ⟨g, 1, none⟩ = some z1 ∧ W.cell? ⟨g, 2, none⟩ = some z2 ∧
    W.frozen? ⟨g, 0, none⟩ = false ∧ W.frozen? ⟨g, 1, none⟩ = false ∧ W.frozen? ⟨g, 2, none⟩ = false :=
  ⟨by rw [cell_of_row W g 0 _ _ _ h]; rfl, by rw [cell_of_row W g 1 _ _ _ h]; rfl, by rw [cell_of_row W g 2 _ _ _ h]; rfl,
    frozen_of_row W g 0 _ _ h, frozen_of_row W g 1 _ _ h, frozen_of_row W g 2 _ _ h⟩
theorem ends3 {fn : Func} (hfn : fn.results = #[.cell 2 47, .tmp 3]) (W : World) (q : Nat) (z0 z1 z2 : Value) (hk : W.heap[q]? = some (.cells #[z0, z1, z2] 47 (0, 0))) (a b c : Value) (o : Value) (Φ : Ending → World → Prop)
    (hΦ : Φ (.returned (.tuple #[.agg #[a, b, c], o])) (((W.setCell ⟨q, 0, none⟩ a).setCell ⟨q, 1, none⟩ b).setCell ⟨q, 2, none⟩ c)) (tmps : Array Value) (t2 : tmps.getD 2 undef = .pointer (some ⟨q, 0, none⟩)) (t3 : tmps.getD 3 undef = o) :
    bodyPost Tryd.prog fn Φ Exit.ret { tmps := tmps, defers := [] } (((W.setCell ⟨q, 0, none⟩ a).setCell ⟨q, 1, none⟩ b).setCell ⟨q, 2, none⟩ c) := by
  obtain ⟨R9, -⟩ := three W q _ _ _ a b c _ hk
  obtain ⟨w9, hw9⟩ : ∃ w9, (((W.setCell ⟨q, 0, none⟩ a).setCell ⟨q, 1, none⟩ b).setCell ⟨q, 2, none⟩ c) = w9 := ⟨_, rfl⟩
  rw [hw9] at R9 hΦ ⊢
  have hld := run_loadVar_row (P := Tryd.prog) _ _ 47 47 #[a, b, c] (0, 0) _ R9 Tryd.underlying47 rfl Tryd.infoTs
  have t2' : tmps[2]?.getD undef = .pointer (some ⟨q, 0, none⟩) := by simpa using t2
  have t3' : tmps[3]?.getD undef = o := by simpa using t3
  refine bodyPost_ret (v := .tuple #[.agg #[a, b, c], o]) ?_ rfl hΦ
  rw [results_cell_tmp hfn]
  simp [asAddr, Result.andThen, t2', t3', hld]

def tsZ : Value := .agg #[.int .i64 0, .slice none 0 0, .map none]
/-- What tripleSystemOf leaves. -/
def TsOut (n : Int) (xss : List (List Int)) (B : Nat) (w' : World) (z : Value) (ok : Bool) : Prop :=
  (ok = false → z = tsZ) ∧ (ok = true → ∃ g S b, z = .agg #[.int .i64 n, .slice (some ⟨g, 0, none⟩) xss.length xss.length, .map (some b)] ∧ B ≤ g ∧ B ≤ b ∧ Ub w' g xss.length S ∧ SetsF xss xss.length S ∧
    MapT w' b (6 * xss.length) (fun x y => thirdI x y xss) (InP (fun i => xss.getD i []) xss.length))

theorem IsT.thr {n : Nat} {xss : List (List Int)} (h : IsT n xss) {i : Nat} (hi : i < xss.length) : ∃ p q r, xss.getD i [] = [p, q, r] ∧ Thr (fun x y => thirdI x y xss) p q r := by
  obtain ⟨p, q, r, e, h0, h1, h2, h3⟩ := h.pts hi
  have n32 : (n : Int) ≤ 32 := h.des.2.1
  have key : ∀ x y z : Int, x ≠ y → x ∈ [p, q, r] → y ∈ [p, q, r] → p + q + r - x - y = z → thirdI x y xss = z := fun x y z hne hx hy hz => by
    have := h.third hi hne (by rw [e]; exact hx) (by rw [e]; exact hy)
    rw [e] at this
    simp at this
    omega
  refine ⟨p, q, r, e, ⟨by omega, by omega⟩, ⟨by omega, by omega⟩, ⟨by omega, by omega⟩, ?_, ?_, ?_, ?_, ?_, ?_⟩
  all_goals exact key _ _ _ (by omega) (by simp) (by simp) (by omega)
theorem sets_pts {n : Int} {xss : List (List Int)} {S : Nat → Nat} (hd : Des n xss) (hS : SetsF xss xss.length S) (i : Nat) (hi : i < xss.length) : fls 32 (fun k => (S i).testBit k) = xss.getD i [] :=
  blk_fls hd.2.1 (hd.2.2.2 i hi).1.2 (hS i hi).2

theorem tripB_no1 {n : Int} {xss : List (List Int)} (h : desB n xss = false) : tripB n xss = false := by unfold tripB; rw [h]; rfl

set_option maxRecDepth 100000 in
set_option maxHeartbeats 4000000 in
theorem iTs (n : Int) (xss : List (List Int)) (hx : xss.length ≤ 1048576) (w : World) (v : Value) (hv : RowsAt w v xss) (ht : Tab w) :
    Calls Tryd.prog 25 #[.agg #[.int .i64 n, v]] w fun e w' => ∃ z, e = .returned (.tuple #[z, .bool (tripB n xss)]) ∧ TsOut n xss w.heap.size w' z (tripB n xss) ∧ Below w.heap.size w w' := by
  obtain ⟨a, cap, rfl, -⟩ := hv.shape
  obtain ⟨m, hm⟩ : ∃ m, xss.length = m := ⟨_, rfl⟩
  rw [hm] at hv ⊢
  obtain ⟨B, hB⟩ : ∃ B, w.heap.size = B := ⟨_, rfl⟩
  have hpos : 0 < B := by rw [← hB]; exact ht.pos
  obtain ⟨w1, hw1⟩ : ∃ w1, w.alloc (.cells #[.int .i64 n, .slice a m cap] 27) = w1 := ⟨_, rfl⟩
  have z1 : w1.heap.size = B + 1 := by rw [← hw1, World.size_alloc, hB]
  have b1 : Below B w w1 := by rw [← hw1]; exact (Below.refl _ _).alloc (by omega) _
  have A1 : w1.heap[B]? = some (.cells #[.int .i64 n, .slice a m cap] 27 (0, 0)) := by rw [← hw1, ← hB]; exact heap_alloc_new _ _
  obtain ⟨w2, hw2⟩ : ∃ w2, w1.alloc (.cells #[.int .i64 0, .slice none 0 0, .map none] 47) = w2 := ⟨_, rfl⟩
  have z2 : w2.heap.size = B + 2 := by rw [← hw2, World.size_alloc, z1]
  have b12 : Below (B + 1) w1 w2 := by rw [← hw2]; exact (Below.refl _ _).alloc (Nat.le_of_eq z1.symm) _
  have b2 : Below B w w2 := b1.trans (b12.mono (Nat.le_succ B))
  have R2 : w2.heap[B + 1]? = some (.cells #[.int .i64 0, .slice none 0 0, .map none] 47 (0, 0)) := by rw [← hw2, ← z1]; exact heap_alloc_new _ _
  have A2 := (b12.block B (Nat.lt_succ_self B)).trans A1
  have c0 : w2.cell? ⟨B, 0, none⟩ = some (.int .i64 n) := by rw [cell_of_row w2 B 0 _ _ _ A2]; rfl
  have c1 : w2.cell? ⟨B, 1, none⟩ = some (.slice a m cap) := by rw [cell_of_row w2 B 1 _ _ _ A2]; rfl
  have HO := Lib.hid (iInc n xss hx w2 _ (hv.below b2 (by omega)) (ht.below b2 hpos))
  rw [z2] at HO
  have TB := Lib.hid ht
  have HB := Lib.hid hB
  have B2 := Lib.hid b2
  have HR2 := Lib.hid R2
  have EN : Hid (∀ W : World, W.heap[B + 1]? = some (.cells #[.int .i64 0, .slice none 0 0, .map none] 47 (0, 0)) → Below B w W → tripB n xss = false → ∀ (tmps : Array Value), tmps.getD 2 undef = .pointer (some ⟨B + 1, 0, none⟩) → tmps.getD 3 undef = .bool false →
      bodyPost Tryd.prog Tryd.f25 (fun e w' => ∃ z, e = .returned (.tuple #[z, .bool (tripB n xss)]) ∧ TsOut n xss w.heap.size w' z (tripB n xss) ∧ Below w.heap.size w w') Exit.ret { tmps := tmps, defers := [] } (((W.setCell ⟨B + 1, 0, none⟩ (.int .i64 0)).setCell ⟨B + 1, 1, none⟩ (.slice none 0 0)).setCell ⟨B + 1, 2, none⟩ (.map none))) := fun W hk hb hf tmps t2 t3 => by
    refine ends3 (fn := Tryd.f25) rfl W (B + 1) _ _ _ hk _ _ _ _ _ ⟨tsZ, by rw [hf]; rfl, ⟨fun _ => rfl, fun h => by rw [hf] at h; cases h⟩, ?_⟩ tmps t2 t3
    rw [HB.out]
    exact (three W (B + 1) _ _ _ _ _ _ _ hk).2.1 B w (Nat.le_succ B) hb
  cases hp : desB n xss with
  | false =>
    have V := Lib.hid (tripB_no1 hp)
    rw [hp] at HO
    clear hp hv A1 b1 A2 R2 b12 b2 ht
    go_enter Tryd.func25, Tryd.ntmps25
    go_wp2_with fail
    try rw [hw1]
    try rw [hw2]
    refine HO.out.mono ?_
    rintro e w3 ⟨z, rfl, ⟨hz, -⟩, b3⟩
    obtain rfl := hz rfl
    have s3 : B + 2 ≤ w3.heap.size := by have := b3.size; omega
    have R3 := (b3.block (B + 1) (by omega)).trans HR2.out
    have B3 : Below B w w3 := B2.out.trans (b3.mono (by omega))
    have b34 : Below w3.heap.size w3 (w3.alloc (.cells #[.int .i64 0, .slice none 0 0] 44)) := (Below.refl _ _).alloc (Nat.le_refl _) _
    have R4 := (b34.block (B + 1) (by omega)).trans R3
    have B4 : Below B w (w3.alloc (.cells #[.int .i64 0, .slice none 0 0] 44)) := B3.trans (b34.mono (by omega))
    obtain ⟨d0, d1, d2, f0, f1, f2⟩ := cells3 (w3.alloc (.cells #[.int .i64 0, .slice none 0 0] 44)) (B + 1) _ _ _ _ R4
    have RR4 := Lib.hid R4
    have BB4 := Lib.hid B4
    clear b3 c0 c1 R3 B3 b34 R4 B4
    go_wp2
    exact EN.out _ RR4.out BB4.out V.out _ rfl rfl
  | true =>
    have D := of_desB hp
    rw [hp] at HO
    obtain ⟨N, rfl⟩ : ∃ N : Nat, n = N := ⟨n.toNat, by have := D.1; omega⟩
    have ND : 1 ≤ N ∧ N ≤ 32 := by have := D.1; have := D.2.1; omega
    have HD := Lib.hid D
    have VT : Hid (tripB N xss = (parO N m (lens xss) (prA N (prF m (memP xss)) N) && (decide ((lens xss).getD 0 0 = 3) && decide ((prA N (prF m (memP xss)) N).getD 0 0 = 1)))) := by
      unfold Hid tripB dPar; rw [hp, Int.toNat_natCast, hm]; rfl
    clear hp hv A1 b1 A2 R2 b12 b2 ht D
    go_enter Tryd.func25, Tryd.ntmps25
    go_wp2_with fail
    try rw [hw1]
    try rw [hw2]
    refine HO.out.mono ?_
    rintro e w3 ⟨z, rfl, ⟨-, hz⟩, b3⟩
    obtain ⟨g, S, rfl, hg, hU, hS⟩ := hz rfl
    have HSF := Lib.hid hS
    rw [hm] at hU hS ⊢
    have s3 : B + 2 ≤ w3.heap.size := by have := b3.size; omega
    have B3 : Below B w w3 := B2.out.trans (b3.mono (by omega))
    have R3 := (b3.block (B + 1) (by omega)).trans HR2.out
    obtain ⟨w4, hw4⟩ : ∃ w4, w3.alloc (.cells #[.int .i64 (N : Int), .slice (some ⟨g, 0, none⟩) m m] 44) = w4 := ⟨_, rfl⟩
    have b34 : Below w3.heap.size w3 w4 := by rw [← hw4]; exact (Below.refl _ _).alloc (Nat.le_refl _) _
    have B4 : Below B w w4 := B3.trans (b34.mono (by omega))
    have R4 := (b34.block (B + 1) (by omega)).trans R3
    have sz4 : w4.heap.size = w3.heap.size + 1 := by rw [← hw4, World.size_alloc]
    have N4 : w4.heap[w3.heap.size]? = some (.cells #[.int .i64 (N : Int), .slice (some ⟨g, 0, none⟩) m m] 44 (0, 0)) := by rw [← hw4]; exact heap_alloc_new _ _
    have hgl := hU.lt
    have HR := Lib.hid (iParams N m ND.1 ND.2 (by have := HD.out.2.2.1; omega) S g w4 (hU.below b34 hU.lt) (fun i hi => (hS i hi).1) (fun i hi k hk => by
      have e := (hS i hi).2 k
      rw [hk] at e
      have mem := of_decide_eq_true e.symm
      obtain ⟨q, hq, e2⟩ := List.mem_iff_getElem.1 mem
      have bk := (HD.out.2.2.2 i (by omega)).1.2 q hq
      unfold okAt at bk
      rw [List.getD_eq_getElem?_getD, List.getElem?_eq_getElem hq] at bk
      simp only [Option.getD_some, e2] at bk
      omega) (TB.out.below B4 hpos))
    have E1 : szS m S = lens xss := sz_lens hm (show (N : Int) ≤ 32 by omega) (fun i hi => (HD.out.2.2.2 i (by omega)).1) (fun i hi k => (hS i hi).2 k)
    have E2 : prF m (fun i x => (S i).testBit x) = prF m (memP xss) := prF_congr fun i x hi => (hS i hi).2 x
    have E3 : repL N m (fun i x => (S i).testBit x) = repL N m (memP xss) := repL_congr fun i x hi => (hS i hi).2 x
    rw [E1, E2, E3] at HR
    -- what stays
    obtain ⟨J, hJ⟩ : ∃ J, w3.heap.size = J := ⟨_, rfl⟩
    rw [hJ] at N4 sz4 hgl s3
    obtain ⟨K, hK⟩ : ∃ K : World → Prop, K = fun W => W.heap[B + 1]? = some (.cells #[.int .i64 0, .slice none 0 0, .map none] 47 (0, 0)) ∧ W.heap[J]? = some (.cells #[.int .i64 (N : Int), .slice (some ⟨g, 0, none⟩) m m] 44 (0, 0)) ∧ Ub W g m S ∧ Below B w W ∧ J + 1 ≤ W.heap.size := ⟨_, rfl⟩
    have K4 : Hid (K w4) := by rw [hK]; exact ⟨R4, N4, hU.below b34 hU.lt, B4, Nat.le_of_eq sz4.symm⟩
    have KN : Hid (∀ W W', Below W.heap.size W W' → Hid (K W) → Hid (K W')) := fun W W' bb h => by
      rw [hK] at h ⊢
      obtain ⟨q1, q2, q3, q4, q5⟩ := h.out
      exact ⟨(bb.block _ (by omega)).trans q1, (bb.block _ (by omega)).trans q2, q3.below bb q3.lt, q4.trans (bb.mono (by have := q4.size; omega)), Nat.le_trans q5 bb.size⟩
    have KO : Hid (∀ W, Hid (K W) → W.heap[B + 1]? = some (.cells #[.int .i64 0, .slice none 0 0, .map none] 47 (0, 0)) ∧ W.heap[J]? = some (.cells #[.int .i64 (N : Int), .slice (some ⟨g, 0, none⟩) m m] 44 (0, 0)) ∧ Ub W g m S ∧ Below B w W ∧ J + 1 ≤ W.heap.size) := fun W h => by rw [hK] at h; exact h.out
    clear hK b3 c0 c1 B3 R3 b34 B4 R4 N4 E1 E2 E3 hU
    obtain ⟨kz, hkz⟩ : ∃ kz, (lens xss).getD 0 0 = kz := ⟨_, rfl⟩
    obtain ⟨pz, hpz⟩ : ∃ pz, (prA N (prF m (memP xss)) N).getD 0 0 = pz := ⟨_, rfl⟩
    have VP : Hid (parO N m (lens xss) (prA N (prF m (memP xss)) N) = true → ∃ rz, parV N m (lens xss) (prA N (prF m (memP xss)) N) (repL N m (memP xss)) = prm N m rz kz pz) := fun h => ⟨_, by unfold parV; rw [if_pos h, hkz, hpz]⟩
    rw [hkz, hpz] at VT
    obtain ⟨va, vb, vc, vd, ve, hform⟩ := prm_form N m (lens xss) (prA N (prF m (memP xss)) N) (repL N m (memP xss))
    simp only [hform] at HR VP
    obtain ⟨o, ho⟩ : ∃ o, parO N m (lens xss) (prA N (prF m (memP xss)) N) = o := ⟨_, rfl⟩
    simp only [ho, prm] at HR
    simp only [ho] at VP VT
    clear hform ho hkz hpz
    obtain ⟨-, n4, -, -, -⟩ := KO.out _ K4
    have e0 : w4.cell? ⟨J, 0, none⟩ = some (.int .i64 (N : Int)) := by rw [cell_of_row w4 _ 0 _ _ _ n4]; rfl
    have e1 : w4.cell? ⟨J, 1, none⟩ = some (.slice (some ⟨g, 0, none⟩) m m) := by rw [cell_of_row w4 _ 1 _ _ _ n4]; rfl
    clear n4
    go_wp2_with fail
    try rw [hw4]
    refine HR.out.mono ?_
    rintro e w5 ⟨rfl, b5⟩
    have K5 := KN.out _ _ b5 K4
    obtain ⟨w6, hw6⟩ : ∃ w6, w5.alloc (.cells #[.int .i64 va, .int .i64 vb, .int .i64 vc, .int .i64 vd, .int .i64 ve] 66) = w6 := ⟨_, rfl⟩
    have b56 : Below w5.heap.size w5 w6 := by rw [← hw6]; exact (Below.refl _ _).alloc (Nat.le_refl _) _
    have K6 := KN.out _ _ b56 K5
    have D6 : w6.heap[w5.heap.size]? = some (.cells #[.int .i64 va, .int .i64 vb, .int .i64 vc, .int .i64 vd, .int .i64 ve] 66 (0, 0)) := by rw [← hw6]; exact heap_alloc_new _ _
    obtain ⟨y0, y1, y2, y3, y4, -, -, -, -, -⟩ := cells5 w6 w5.heap.size _ _ _ _ _ _ D6
    obtain ⟨k0, -, -, B6, -⟩ := KO.out _ K6
    obtain ⟨d0, d1, d2, f0, f1, f2⟩ := cells3 w6 (B + 1) _ _ _ _ k0
    have RR6 := Lib.hid k0
    have BB6 := Lib.hid B6
    clear b5 b56 D6 k0 B6 e0 e1 K4 K5
    cases o with
    | false =>
      go_wp2
      try rw [hw6]
      exact EN.out _ RR6.out BB6.out (by rw [VT.out]; rfl) _ rfl rfl
    | true =>
      obtain ⟨rz, hprm⟩ := VP.out rfl
      simp only [prm, Value.agg.injEq, Array.mk.injEq, List.cons.injEq, Value.int.injEq, true_and, and_true] at hprm
      obtain ⟨-, -, -, rfl, rfl⟩ := hprm
      by_cases q3 : vd = 3
      · by_cases q1 : ve = 1
        · subst q3; subst q1
          have VV : Hid (tripB N xss = true) := VT.out.trans (by rfl)
          obtain ⟨N', e', hT⟩ := of_tripB VV.out
          obtain rfl : N = N' := by omega
          have HT := Lib.hid hT
          clear hT e'
          have T6 : Tab w6 := TB.out.below BB6.out hpos
          have HTh : Hid (∀ W, Hid (K W) → Calls Tryd.prog 44 #[.agg #[.int .i64 (N : Int), .slice (some ⟨g, 0, none⟩) m m]] W fun e w' => ∃ b, e = .returned (.map (some b)) ∧ W.heap.size ≤ b ∧ MapT w' b (6 * m) (fun x y => thirdI x y xss) (InP (fun i => xss.getD i []) m) ∧ Below W.heap.size W w') := fun W h =>
            iThirds N m g S (fun i => xss.getD i []) (fun x y => thirdI x y xss) (by have := HD.out.2.2.1; omega) W (KO.out W h).2.2.1 (fun i hi => (hS i hi).1) (fun i hi => sets_pts HD.out HSF.out i (by omega)) (fun i hi => HT.out.thr (by omega)) (TB.out.below (KO.out W h).2.2.2.1 hpos)
          have KD : Hid (∀ W, Hid (K W) → Hid (K W.drew)) := fun W h => KN.out W W.drew (Below.refl _ _).drew h
          have CJ : Hid (∀ W, Hid (K W) → W.cell? ⟨J, 0, none⟩ = some (.int .i64 (N : Int)) ∧ W.cell? ⟨J, 1, none⟩ = some (.slice (some ⟨g, 0, none⟩) m m)) := fun W h => by
            obtain ⟨-, q2, -⟩ := KO.out W h
            exact ⟨by rw [cell_of_row W J 0 _ _ _ q2]; rfl, by rw [cell_of_row W J 1 _ _ _ q2]; rfl⟩
          clear T6 d0 d1 d2 f0 f1 f2
          go_wp2
          try rw [hw6]
          refine wp_region_held_drew (S := fun w' => w'.cell? ⟨J, 0, none⟩ = some (.int .i64 (N : Int)) ∧ w'.cell? ⟨J, 1, none⟩ = some (.slice (some ⟨g, 0, none⟩) m m)) (by kernel_rfl) (CJ.out _ (KD.out _ K6)) (fun hHeld => ?_)
          refine wpAnyH_take (i := 0) (oi := { dst := some 33, op := Op.load 44 (Operand.tmp 4), type := 44, pos := "l11_triples.go:55", after := #[], guard := none }) (v := ?_) rfl (by kernel_rfl) (by kernel_rfl) (by kernel_rfl) (fun _ _ _ h => h) (Or.inl ⟨by rfl, ?_⟩) (by assumption) ?_
          rotate_left
          · intro w hSw; (try dsimp only at hSw); go_simp
            try with_reducible rfl
          simp only [Act.put, List.setIfInBounds_toArray, List.set_cons_zero, List.set_cons_succ]
          refine wpAnyH_take (i := 1) (oi := { dst := some 34, op := Op.load 44 (Operand.tmp 4), type := 44, pos := "l11_triples.go:55", after := #[], guard := none }) (v := ?_) rfl (by kernel_rfl) (by kernel_rfl) (by kernel_rfl) (fun _ _ _ h => h) (Or.inl ⟨by rfl, ?_⟩) (by assumption) ?_
          rotate_left
          · intro w hSw; (try dsimp only at hSw); go_simp
            try with_reducible rfl
          simp only [Act.put, List.setIfInBounds_toArray, List.set_cons_zero, List.set_cons_succ]
          refine wpAnyH_ready (rs := [2]) (by kernel_rfl) (by simp) ?_
          refine AllReadyH.cons rfl (fun K' hK' => ?_) AllReadyH.nil
          go_simp
          go_wp2_with fail
          refine (HTh.out _ (KD.out _ K6)).mono ?_
          rintro e w8 ⟨b8, rfl, lb8, M8, bb8⟩
          have K8 := KN.out _ _ bb8 (KD.out _ K6)
          have M8 := Lib.hid M8
          obtain ⟨k8, -, U8, B8, z8⟩ := KO.out _ K8
          obtain ⟨d0, d1, d2, f0, f1, f2⟩ := cells3 w8 (B + 1) _ _ _ _ k8
          have RR8 := Lib.hid k8
          have BB8 := Lib.hid B8
          have UU8 := Lib.hid U8
          have lb : B + 2 ≤ b8 := by have : J + 1 ≤ w6.heap.size := (KO.out _ K6).2.2.2.2; have : w6.heap.size ≤ b8 := lb8; omega
          clear bb8 k8 U8 B8 z8 lb8
          refine hK'.out _ _ (CJ.out _ K8) (fun hHeld => ?_)
          clear hK' K'
          refine wpAnyH_take (i := 3) (oi := { dst := some 36, op := Op.build 47 #[(0, Operand.tmp 33), (1, Operand.tmp 35)], type := 47, pos := "l11_triples.go:55", after := #[{ on := 0, ground := Ground.data }, { on := 2, ground := Ground.data }], guard := none }) (v := ?_) rfl (by kernel_rfl) (by kernel_rfl) (by kernel_rfl) (fun _ _ _ h => h) (Or.inl ⟨by rfl, ?_⟩) (by assumption) ?_
          rotate_left
          · intro w hSw; (try dsimp only at hSw); go_simp
            try with_reducible rfl
          simp only [Act.put, List.setIfInBounds_toArray, List.set_cons_zero, List.set_cons_succ]
          refine wpAnyH_ready (rs := [4]) (by kernel_rfl) (by simp) ?_
          refine AllReadyH.cons rfl (fun K' hK' => ?_) AllReadyH.nil
          go_simp
          refine hK'.out _ _ (by
            have hJ := (three w8 (B + 1) _ _ _ (.int .i64 (N : Int)) (.slice (some ⟨g, 0, none⟩) m m) (.map (some b8)) _ RR8.out).2.2 J (by omega)
            have q2 := hJ.trans (KO.out _ K8).2.1
            exact ⟨by rw [cell_of_row _ J 0 _ _ _ q2]; rfl, by rw [cell_of_row _ J 1 _ _ _ q2]; rfl⟩) (fun hHeld => ?_)
          clear hK' K'
          refine wpAnyH_take (i := 5) (oi := { dst := some 3, op := Op.assign (Operand.const (Value.bool true)), type := 4, pos := "l11_triples.go:55", after := #[{ on := 4, ground := Ground.chain }, { on := 0, ground := Ground.phase }, { on := 1, ground := Ground.phase }, { on := 2, ground := Ground.phase }, { on := 3, ground := Ground.phase }, { on := 4, ground := Ground.phase }], guard := none }) (v := ?_) rfl (by kernel_rfl) (by kernel_rfl) (by kernel_rfl) (fun _ _ _ h => h) (Or.inl ⟨by rfl, ?_⟩) (by assumption) ?_
          rotate_left
          · intro w hSw; (try dsimp only at hSw); go_simp
            try with_reducible rfl
          simp only [Act.put, List.setIfInBounds_toArray, List.set_cons_zero, List.set_cons_succ]
          refine wpAnyH_done (by kernel_rfl) ?_ _
          clear hHeld
          go_wp2
          obtain ⟨-, T1, T2⟩ := three w8 (B + 1) _ _ _ (.int .i64 (N : Int)) (.slice (some ⟨g, 0, none⟩) m m) (.map (some b8)) _ RR8.out
          refine ends3 (fn := Tryd.f25) rfl w8 (B + 1) _ _ _ RR8.out _ _ _ _ _ ⟨_, by rw [VV.out]; rfl, ⟨fun h => absurd (VV.out.symm.trans h) (by decide), fun _ => ⟨g, S, b8, by rw [hm], by have := HB.out; omega, by have := HB.out; omega, ?_, HSF.out, ?_⟩⟩, by rw [HB.out]; exact T1 B w (Nat.le_succ B) BB8.out⟩ _ rfl rfl
          · rw [hm]; exact (T2 g (by omega)).trans UU8.out
          · rw [hm]; exact M8.out.block (T2 b8 (by omega))
        · have t1 : (ve != 1) = true := by simpa using q1
          subst q3
          have VV := Lib.hid (VT.out.trans (by rw [decide_eq_false q1]))
          go_wp2
          try rw [hw6]
          exact EN.out _ RR6.out BB6.out VV.out _ rfl rfl
      · have t1 : (vd != 3) = true := by simpa using q3
        have VV := Lib.hid (VT.out.trans (by rw [decide_eq_false q3]))
        go_wp2
        try rw [hw6]
        exact EN.out _ RR6.out BB6.out VV.out _ rfl rfl

/-! IsTripleSystem: the model's and the program's. -/
section
open Go.RowKit Go.Shelf
set_option linter.unusedVariables false
set_option linter.unusedSimpArgs false

set_option maxRecDepth 100000 in
set_option maxHeartbeats 4000000 in
theorem s11Ok (n : Int) (xss : List (List Int)) (w : World) (v : Value) (g : Nat) (c0 : w.cell? ⟨g, 0, none⟩ = some (.int .i64 n)) (c1 : w.cell? ⟨g, 1, none⟩ = some v) (hv : RowsAt w v xss) :
    Calls Tryd.prog 23 #[.pointer (some ⟨g, 0, none⟩)] w fun e w' => e = .returned (.bool (tripB n xss)) ∧ Below w.heap.size w w' := by
  have HO := Lib.hid (sOk n xss w v g c0 c1 hv)
  have B0 : Hid (Below w.heap.size w w) := Below.refl _ _
  cases hp : desB n xss with
  | false =>
    have V := Lib.hid (tripB_no1 hp)
    rw [hp] at HO
    clear hp hv c0 c1
    go_enter Tryd.func23, Tryd.ntmps23
    go_wp2_with fail
    refine HO.out.mono ?_
    rintro e w3 ⟨rfl, d, rfl⟩
    go_wp2
    go_ret
    exact ⟨by rw [V.out]; rfl, below_drewN B0.out d⟩
  | true =>
    have D := of_desB hp
    rw [hp] at HO
    obtain ⟨N, rfl⟩ : ∃ N : Nat, n = N := ⟨n.toNat, by have := D.1; omega⟩
    have HR := Lib.hid (fun d => sParams N (by have := D.1; omega) (by have := D.2.1; omega) xss D.2.2.1 (fun i hi => (D.2.2.2 i hi).1) (w.drewN d) v g c0 c1 (hv.drewN d))
    have VT : Hid (tripB N xss = (parO N xss.length (lens xss) (prA N (prF xss.length (memP xss)) N) && (decide ((lens xss).getD 0 0 = 3) && decide ((prA N (prF xss.length (memP xss)) N).getD 0 0 = 1)))) := by
      unfold Hid tripB dPar; rw [hp, Int.toNat_natCast]; rfl
    obtain ⟨kz, hkz⟩ : ∃ kz, (lens xss).getD 0 0 = kz := ⟨_, rfl⟩
    obtain ⟨pz, hpz⟩ : ∃ pz, (prA N (prF xss.length (memP xss)) N).getD 0 0 = pz := ⟨_, rfl⟩
    have VP : Hid (parO N xss.length (lens xss) (prA N (prF xss.length (memP xss)) N) = true → ∃ rz, parV N xss.length (lens xss) (prA N (prF xss.length (memP xss)) N) (repL N xss.length (memP xss)) = prm N xss.length rz kz pz) := fun h => ⟨_, by unfold parV; rw [if_pos h, hkz, hpz]⟩
    rw [hkz, hpz] at VT
    obtain ⟨va, vb, vc, vd, ve, hform⟩ := prm_form N xss.length (lens xss) (prA N (prF xss.length (memP xss)) N) (repL N xss.length (memP xss))
    simp only [hform] at HR VP
    obtain ⟨o, ho⟩ : ∃ o, parO N xss.length (lens xss) (prA N (prF xss.length (memP xss)) N) = o := ⟨_, rfl⟩
    simp only [ho, prm] at HR
    simp only [ho] at VP VT
    clear hform ho hkz hpz hp hv c0 c1 D
    go_enter Tryd.func23, Tryd.ntmps23
    go_wp2_with fail
    refine HO.out.mono ?_
    rintro e w3 ⟨rfl, d, rfl⟩
    go_wp2_with fail
    refine (HR.out d).mono ?_
    rintro e w4 ⟨rfl, b4⟩
    have B4 : Below w.heap.size w w4 := (below_drewN B0.out d).trans b4
    obtain ⟨w5, hw5⟩ : ∃ w5, w4.alloc (.cells #[.int .i64 va, .int .i64 vb, .int .i64 vc, .int .i64 vd, .int .i64 ve] 66) = w5 := ⟨_, rfl⟩
    have b45 : Below w4.heap.size w4 w5 := by rw [← hw5]; exact (Below.refl _ _).alloc (Nat.le_refl _) _
    have BA : Hid (∀ cs T, Below w.heap.size w (w4.alloc (.cells cs T))) := fun cs T => B4.alloc B4.size _
    have D5 : w5.heap[w4.heap.size]? = some (.cells #[.int .i64 va, .int .i64 vb, .int .i64 vc, .int .i64 vd, .int .i64 ve] 66 (0, 0)) := by rw [← hw5]; exact heap_alloc_new _ _
    obtain ⟨y0, y1, y2, y3, y4, -, -, -, -, -⟩ := cells5 w5 w4.heap.size _ _ _ _ _ _ D5
    clear b4 B4 b45 D5
    cases o with
    | false =>
      go_wp2
      try rw [hw5]
      go_ret
      exact ⟨by rw [VT.out]; rfl, by first | exact BA.out _ _ | (rw [← hw5]; exact BA.out _ _)⟩
    | true =>
      obtain ⟨rz, hprm⟩ := VP.out rfl
      simp only [prm, Value.agg.injEq, Array.mk.injEq, List.cons.injEq, Value.int.injEq, true_and, and_true] at hprm
      obtain ⟨-, -, -, rfl, rfl⟩ := hprm
      by_cases q3 : vd = 3
      · have t3 : (vd == 3) = true := by simpa using q3
        have q3 := Lib.hid q3
        by_cases q1 : ve = 1
        · have t1 : (ve == 1) = true := by simpa using q1
          have q1 := Lib.hid q1
          go_wp2
          try rw [hw5]
          go_ret
          exact ⟨by rw [VT.out, decide_eq_true q3.out, decide_eq_true q1.out]; rfl, by first | exact BA.out _ _ | (rw [← hw5]; exact BA.out _ _)⟩
        · have t1 : (ve == 1) = false := by simpa using q1
          go_wp2
          try rw [hw5]
          go_ret
          exact ⟨by rw [VT.out, decide_eq_true q3.out, decide_eq_false q1]; rfl, by first | exact BA.out _ _ | (rw [← hw5]; exact BA.out _ _)⟩
      · have t3 : (vd == 3) = false := by simpa using q3
        go_wp2
        try rw [hw5]
        go_ret
        exact ⟨by rw [VT.out, decide_eq_false q3]; rfl, by first | exact BA.out _ _ | (rw [← hw5]; exact BA.out _ _)⟩

set_option maxRecDepth 100000 in
set_option maxHeartbeats 4000000 in
theorem sIsTripleSystem (n : Int) (xss : List (List Int)) (w : World) (v : Value) (hv : RowsAt w v xss) :
    Calls Tryd.prog 8 #[.agg #[.int .i64 n, v]] w fun e w' => e = .returned (.bool (tripB n xss)) ∧ Below w.heap.size w w' := by
  obtain ⟨a, cap, rfl, -⟩ := hv.shape
  obtain ⟨m, hm⟩ : ∃ m, xss.length = m := ⟨_, rfl⟩
  rw [hm] at hv ⊢
  obtain ⟨B, hB⟩ : ∃ B, w.heap.size = B := ⟨_, rfl⟩
  obtain ⟨w1, hw1⟩ : ∃ w1, w.alloc (.cells #[.int .i64 n, .slice a m cap] 27) = w1 := ⟨_, rfl⟩
  have z1 : w1.heap.size = B + 1 := by rw [← hw1, World.size_alloc, hB]
  have b1 : Below B w w1 := by rw [← hw1]; exact (Below.refl _ _).alloc (by omega) _
  have A1 : w1.heap[B]? = some (.cells #[.int .i64 n, .slice a m cap] 27 (0, 0)) := by rw [← hw1, ← hB]; exact heap_alloc_new _ _
  have HO := Lib.hid (s11Ok n xss w1 _ B (by rw [cell_of_row w1 B 0 _ _ _ A1]; rfl) (by rw [cell_of_row w1 B 1 _ _ _ A1]; rfl) (hv.below b1 (by omega)))
  rw [z1] at HO
  have HB := Lib.hid hB
  have B1 := Lib.hid b1
  clear hv A1 b1 z1
  go_enter Tryd.func8, Tryd.ntmps8
  go_wp2_with fail
  try rw [hw1]
  refine HO.out.mono ?_
  rintro e w3 ⟨rfl, b3⟩
  have B3 : Hid (Below B w w3) := B1.out.trans (b3.mono (by omega))
  clear b3
  go_wp2
  go_ret
  exact ⟨rfl, by rw [HB.out]; exact B3.out⟩

set_option maxRecDepth 100000 in
set_option maxHeartbeats 4000000 in
theorem iIsTripleSystem (n : Int) (xss : List (List Int)) (hx : xss.length ≤ 1048576) (w : World) (v : Value) (hv : RowsAt w v xss) (ht : Tab w) :
    Calls Tryd.prog 10 #[.agg #[.int .i64 n, v]] w fun e w' => e = .returned (.bool (tripB n xss)) ∧ Below w.heap.size w w' := by
  obtain ⟨a, cap, rfl, -⟩ := hv.shape
  obtain ⟨m, hm⟩ : ∃ m, xss.length = m := ⟨_, rfl⟩
  rw [hm] at hv ⊢
  obtain ⟨B, hB⟩ : ∃ B, w.heap.size = B := ⟨_, rfl⟩
  have hpos : 0 < B := by rw [← hB]; exact ht.pos
  obtain ⟨w1, hw1⟩ : ∃ w1, w.alloc (.cells #[.int .i64 n, .slice a m cap] 27) = w1 := ⟨_, rfl⟩
  have z1 : w1.heap.size = B + 1 := by rw [← hw1, World.size_alloc, hB]
  have b1 : Below B w w1 := by rw [← hw1]; exact (Below.refl _ _).alloc (by omega) _
  have A1 : w1.heap[B]? = some (.cells #[.int .i64 n, .slice a m cap] 27 (0, 0)) := by rw [← hw1, ← hB]; exact heap_alloc_new _ _
  have c0 : w1.cell? ⟨B, 0, none⟩ = some (.int .i64 n) := by rw [cell_of_row w1 B 0 _ _ _ A1]; rfl
  have c1 : w1.cell? ⟨B, 1, none⟩ = some (.slice a m cap) := by rw [cell_of_row w1 B 1 _ _ _ A1]; rfl
  have HO := Lib.hid (iTs n xss hx w1 _ (hv.below b1 (by omega)) (ht.below b1 hpos))
  rw [z1] at HO
  have HB := Lib.hid hB
  have B1 := Lib.hid b1
  clear hv A1 b1 z1 ht
  go_enter Tryd.func10, Tryd.ntmps10
  go_wp2_with fail
  try rw [hw1]
  refine HO.out.mono ?_
  rintro e w3 ⟨z, rfl, ⟨hz0, hz1⟩, b3⟩
  have B3 : Below B w w3 := B1.out.trans (b3.mono (by omega))
  have s3 : B ≤ w3.heap.size := by have := B3.size; omega
  have BA : Hid (∀ cs T, Below B w (w3.alloc (.cells cs T))) := fun cs T => B3.alloc s3 _
  clear b3 B3
  cases e : tripB n xss with
  | false =>
    have hz := hz0 e
    unfold tsZ at hz
    subst hz
    have E := Lib.hid e
    clear hz0 hz1 e
    go_wp2
    go_ret
    exact ⟨by rw [E.out]; rfl, by rw [HB.out]; exact BA.out _ _⟩
  | true =>
    obtain ⟨g, S, bm, rfl, -⟩ := hz1 e
    rw [hm]
    have E := Lib.hid e
    clear hz0 hz1 e
    go_wp2
    go_ret
    exact ⟨by rw [E.out]; rfl, by rw [HB.out]; exact BA.out _ _⟩
end
end Go.Proofs.YtanfodbpgpfjmabDoor
