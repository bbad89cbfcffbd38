/- Products of elements, by the program. -/
import Derived.Test.YtmlcdbjibngnkaaEc
import Derived.Deep.RegionHeld2
namespace Go.Proofs.Ytmlcdbjibngnkaa
open Go.RowKit
set_option linter.unusedVariables false
set_option linter.unusedSimpArgs false

def lis (c : Co) : List Value := (vec 12 c).map (Value.int .i64)
theorem lis_len (c : Co) : (lis c).length = 12 := by simp [lis]
theorem lis_one (c : Co) : ∀ v ∈ lis c, v.oneCell' = true := by
  intro v hv
  obtain ⟨x, _, rfl⟩ := List.mem_map.1 hv
  rfl
theorem Try.infoLis (c : Co) : (Try.prog.info? 55).map (·.size) = some (lis c).length := by rw [lis_len]; exact Try.infoPoly
theorem At.there {w : World} {g : Nat} {c : Co} (h : At w g c) : w.there g 0 12 := fun j hj => by
  rw [Nat.zero_add]
  exact ⟨by rw [h.cell j hj]; rfl, h.frozen j⟩
theorem Try.newThere (W : World) : (W.alloc (.cells #[.int .i64 0, .int .i64 0, .int .i64 0, .int .i64 0, .int .i64 0, .int .i64 0, .int .i64 0, .int .i64 0, .int .i64 0, .int .i64 0, .int .i64 0, .int .i64 0] 55)).there W.heap.size 0 12 := (At.zero (heap_alloc_new W _)).there

theorem setCells_other (b k : Nat) (hk : k ≠ b) : ∀ (vs : List Value) (o : Nat) (W : World), (W.setCells b o vs).heap[k]? = W.heap[k]?
  | [], o, W => rfl
  | v :: vs, o, W => by
    rw [World.setCells, setCells_other b k hk vs]
    exact heap_setCell_other W ⟨b, o, none⟩ k v hk
theorem below_setCells {B : Nat} {a : World} (b : Nat) (hb : B ≤ b) : ∀ (vs : List Value) (o : Nat) (W : World), Below B a W → Below B a (W.setCells b o vs)
  | [], o, W, h => h
  | v :: vs, o, W, h => by
    rw [World.setCells]
    exact below_setCells b hb vs _ _ (h.setCell hb _)
theorem Sf.setC {w : World} {P K s : Int} {c : Co} {W : World} {g7 n : Nat} {L : List Value} (h : Hid (Sf w w.heap.size P K s c W)) (ht : W.there g7 0 n) (hg : w.heap.size < g7) : Hid (Sf w w.heap.size P K s c (W.setCells g7 0 L)) :=
  ⟨(setCells_other g7 w.heap.size (by omega) L 0 W).trans h.out.1, below_setCells g7 (Nat.le_of_lt hg) L 0 W h.out.2⟩
theorem Sf.al {w : World} {g : Nat} {P K s : Int} {c : Co} {W : World} (h : Hid (Sf w g P K s c W)) : Hid (Sf w g P K s c (W.alloc (.cells #[.int .i64 0, .int .i64 0, .int .i64 0, .int .i64 0, .int .i64 0, .int .i64 0, .int .i64 0, .int .i64 0, .int .i64 0, .int .i64 0, .int .i64 0, .int .i64 0] 55))) := Sf.next h ((Below.refl _ _).alloc (Nat.le_refl _) _)
theorem range_set {W : World} {g7 : Nat} {L : List Value} (ht : W.there g7 0 L.toArray.size) : (W.setCells g7 0 L).rangeAt g7 0 L := World.rangeAt_setCells_same W g7 0 L (by rw [List.size_toArray] at ht; exact ht)
theorem range_next {W w' : World} {g : Nat} {L : List Value} (hl : L.length = 12) (hb : Below W.heap.size W w') (h : W.rangeAt g 0 L) : w'.rangeAt g 0 L := by
  have hg : g < W.heap.size := World.block_lt_of_cell? W _ (h 0 L[0] (by simp [hl]))
  intro j v hv
  rw [hb.cell (p := ⟨g, 0 + j, none⟩) hg]
  exact h j v hv
/-- The worlds of the second half. -/
def Sm (w : World) (P K s : Int) (c : Co) (g7 : Nat) (L : List Value) (w' : World) : Prop := Sf w w.heap.size P K s c w' ∧ w'.rangeAt g7 0 L
theorem Sm.next {w : World} {P K s : Int} {c : Co} {g7 : Nat} {L : List Value} {w1 w2 : World} (hl : L.length = 12) (hb : Below w1.heap.size w1 w2) (h : Hid (Sm w P K s c g7 L w1)) : Hid (Sm w P K s c g7 L w2) :=
  ⟨(Sf.next (Lib.hid h.out.1) hb).out, range_next hl hb h.out.2⟩
theorem heldm {w : World} {P K s : Int} {c : Co} {g7 : Nat} {L F : List Value} {w' : World} (hF : lis c = F) (h : Hid (Sm w P K s c g7 L w')) : w'.rangeAt g7 0 L ∧ w'.rangeAt w.heap.size 3 F ∧ w'.cell? ⟨w.heap.size, 0, none⟩ = some (.int .i64 P) ∧ w'.cell? ⟨w.heap.size, 1, none⟩ = some (.int .i64 K) ∧ Hid (Sm w P K s c g7 L w') := by
  subst hF
  exact ⟨h.out.2, h.out.1.1.range, h.out.1.1.cells.1, h.out.1.1.cells.2.1, h⟩
theorem there_next {W w' : World} {g n : Nat} (hn : 0 < n) (hb : Below W.heap.size W w') (h : W.there g 0 n) : w'.there g 0 n := by
  have hg : g < W.heap.size := by
    have := (h 0 hn).1
    obtain ⟨v, hv⟩ := Option.isSome_iff_exists.1 this
    exact World.block_lt_of_cell? W _ hv
  intro j hj
  obtain ⟨a, b⟩ := h j hj
  exact ⟨by rw [hb.cell (p := ⟨g, 0 + j, none⟩) hg]; exact a, by rw [hb.frozen (p := ⟨g, 0 + j, none⟩) hg]; exact b⟩

set_option maxRecDepth 20000 in
set_option maxHeartbeats 4000000 in
theorem imul (p k : Nat) (s : Int) (f : Co) (a b : Nat) (w : World) (hp : 2 ≤ p) (hp' : p ≤ 64) (hk : 1 ≤ k) (hk6 : k ≤ 6) (hq : p ^ k ≤ 64) (hf : Rd p (k + 1) f) (hf1 : f k = 1) (ha : a < p ^ k) (hb : b < p ^ k) :
    Calls Try.prog 61 #[.agg (ffv p k s f), .int .i64 a, .int .i64 b] w fun e w' => e = .returned (.int .i64 (fmul p k f a b)) ∧ Below w.heap.size w w' := by
  have S0 := Sf.start w p k s f
  have RA := Lib.hid (dg_rd p a k (by omega) ha)
  have RB := Lib.hid (dg_rd p b k (by omega) hb)
  have HA := Lib.hid (fun W : World => polyOf a p W hp hp' (by omega))
  have HB := Lib.hid (fun W : World => polyOf b p W hp hp' (by omega))
  have HT : Hid (∀ W : World, Calls Try.prog 94 #[.agg (arr 12 (dg p a)), .agg (arr 12 (dg p b)), .int .i64 p] W fun e w' => e = .returned (.agg (lis (prod p (dg p a) (dg p b) 6 6)).toArray) ∧ Below W.heap.size W w') := fun W => polyTimes p (dg p a) (dg p b) W hp hp' (fun i => ⟨(RA.out i).1, (RA.out i).2.1⟩) (fun i => ⟨(RB.out i).1, (RB.out i).2.1⟩)
  obtain ⟨m, hm⟩ : ∃ m, prod p (dg p a) (dg p b) 6 6 = m := ⟨_, rfl⟩
  rw [hm] at HT
  have HM := Lib.hid hm
  have hi := Try.infoLis m
  have hlen := lis_len m
  have hone := lis_one m
  obtain ⟨L, hL⟩ : ∃ L, lis m = L := ⟨_, rfl⟩
  rw [hL] at HT hi hlen hone
  have HL := Lib.hid hL
  have hn12 : L.toArray.size = 12 := by simp [hlen]
  have hn0 : 0 < L.toArray.size := by rw [hn12]; omega
  have hnew := Try.newThere
  rw [← hn12] at hnew
  have hn12' := Lib.hid hn12
  clear hn12
  clear hL
  obtain ⟨q, hq'⟩ : ∃ q, ffv p k s f = q := ⟨_, rfl⟩
  have HQ := Lib.hid hq'
  rw [hq'] at S0 ⊢
  clear hm hq'
  go_enter Try.func61, Try.ntmps61
  go_upto_region 1 with fail
  go_cut [7] from 8 (fun v wx => ∃ g7, v = .pointer (some ⟨g7, 0, none⟩) ∧ Hid (wx.rangeAt g7 0 L) ∧ Hid (Sf w w.heap.size p k s f wx))
  case first =>
    have S1 := Sf.drew S0
    have S1A := Sf.al S1
    have ht1 := hnew (w.alloc (.cells q 57)).drew
    have hg1 : w.heap.size < w.heap.size + 1 := Nat.lt_succ_self _
    have hsz : (w.alloc (.cells q 57)).drew.heap.size = w.heap.size + 1 := by show (w.heap.push _).size = _; simp
    rw [hsz] at ht1
    have S1B := Sf.drew (Sf.al S0)
    have ht2 : ((w.alloc (.cells q 57)).alloc (.cells #[.int .i64 0, .int .i64 0, .int .i64 0, .int .i64 0, .int .i64 0, .int .i64 0, .int .i64 0, .int .i64 0, .int .i64 0, .int .i64 0, .int .i64 0, .int .i64 0] 55)).drew.there (w.heap.size + 1) 0 L.toArray.size := by
      have := hnew (w.alloc (.cells q 57))
      rwa [World.size_alloc] at this
    go_region_held3 (fun w' => w'.cell? ⟨w.heap.size, 0, none⟩ = some (.int .i64 p) ∧ w'.cell? ⟨w.heap.size, 1, none⟩ = some (.int .i64 k) ∧ Hid (Sf w w.heap.size p k s f w')) (first | (refine heldf ?_; with_reducible assumption))
      (first | (go_at_call 93; (first | (with_reducible refine (HA.out _).mono ?_) | (with_reducible refine (HB.out _).mono ?_)); rintro e w4 ⟨rfl, b4⟩; have S4 := Sf.next (by with_reducible assumption) b4; have S4A := Sf.al S4; have hta := hnew w4; have hga := S4.out.1.lt; (try have htb := there_next hn0 b4 (by with_reducible assumption))) | (go_at_call 94; refine (HT.out _).mono ?_; rintro e w4 ⟨rfl, b4⟩; have S4 := Sf.next (by with_reducible assumption) b4; have S4A := Sf.al S4; have hta := hnew w4; have hga := S4.out.1.lt; (try have htb := there_next hn0 b4 (by with_reducible assumption)); have hsA := Sf.setC (L := L) S4A hta hga; (try have hsB := Sf.setC (L := L) S4 htb (by with_reducible assumption))))
    all_goals (go_wp2; go_meet; exact ⟨_, rfl, range_set (by with_reducible assumption), by with_reducible assumption⟩)
  case rest =>
    obtain ⟨g7, rfl, R7, S7⟩ := hcut
    have M7 : Hid (Sm w p k s f g7 L wc) := ⟨S7.out, R7.out⟩
    have hlen' := HL.out ▸ lis_len m
    have M7d := Sm.next hlen' (Below.refl _ _).drew M7
    have PR0 : Hid (Rd p (2 * k - 1) (prod p (dg p a) (dg p b) k k)) := prod_rd (by omega) _ k (by omega)
    have EM : Hid (m = prod p (dg p a) (dg p b) k k) := by
      unfold Hid
      rw [← HM.out, prod_cut (by omega) (fun j hj => (RA.out j).2.2 hj) (fun j hj => (RB.out j).2.2 hj) hk6 6, show min 6 k = k by omega]
    have PR : Hid (Rd p (2 * k - 1) m) := by rw [EM.out]; exact PR0
    have RC : Hid (red p f k (12 - k) m = red p f k (k - 1) m) := by
      have := red_cut (p := p) (b := f) (deg := k) (12 - (2 * k - 1)) (k - 1) m (by rw [show k + (k - 1) = 2 * k - 1 by omega]; exact PR.out)
      rwa [show k - 1 + (12 - (2 * k - 1)) = 12 - k by omega] at this
    obtain ⟨F, hF⟩ : ∃ F, lis f = F := ⟨_, rfl⟩
    have hiF := Try.infoLis f
    rw [hF] at hiF
    have HR : Hid (∀ W : World, Calls Try.prog 95 #[.agg L.toArray, .agg F.toArray, .int .i64 k, .int .i64 p] W fun e w' => e = .returned (.agg (arr 12 (red p f k (k - 1) m))) ∧ Below W.heap.size W w') := fun W => by
      rw [← RC.out, ← HL.out, ← hF]
      exact polyRest p k m f W hp hp' hk6 (PR.out.mono (by omega)) (fun i => ⟨(hf i).1, (hf i).2.1⟩)
    have RR : Rd p k (red p f k (k - 1) m) := red_rd (by omega) hf1 _ _ (by rw [show k + (k - 1) = 2 * k - 1 by omega]; exact PR.out)
    have HN : Hid (∀ W : World, Calls Try.prog 96 #[.agg (arr 12 (red p f k (k - 1) m)), .int .i64 p] W fun e w' => e = .returned (.int .i64 (fmul p k f a b)) ∧ Below W.heap.size W w') := fun W => by
      have := polyNum p k _ W hp hp' RR hq (by omega)
      unfold fmul
      rw [← EM.out]
      exact this
    have hu := Try.underlying55
    have HF := Lib.hid hF
    clear RR RC PR PR0 EM HM HT HL hone hn0 hn12' hnew S0 S7 R7 ha hb hf hf1 hF hlen
    have hlen2 := Lib.hid hlen'
    clear hlen'
    go_wp2
    refine wp_region_held_drew (S := (fun w' => w'.rangeAt g7 0 L ∧ w'.rangeAt w.heap.size 3 F ∧ w'.cell? ⟨w.heap.size, 0, none⟩ = some (.int .i64 p) ∧ w'.cell? ⟨w.heap.size, 1, none⟩ = some (.int .i64 k) ∧ Hid (Sm w p k s f g7 L w'))) (by kernel_rfl) ?_ (fun hHeld => ?_)
    · refine heldm HF.out ?_; with_reducible assumption
    refine wpAnyH_take (i := 0) (oi := ⟨some 19, Op.load 55 (Operand.tmp 7), 55, "l03_fields.go:163", #[], none⟩) rfl (by kernel_rfl) (by kernel_rfl) (by kernel_rfl) (fun _ _ _ h => h) (yieldsIf_load_mid (by rfl) _ _ rfl _ _ rfl L _ (fun w hSw => hSw.1) hu rfl hi) (by assumption) ?_
    simp only [Act.put, List.setIfInBounds_toArray, List.set_cons_zero, List.set_cons_succ]
    refine wpAnyH_take (i := 1) (oi := ⟨some 20, Op.fieldAddr 57 (Operand.tmp 3) 3, 0, "l03_fields.go:163", #[], none⟩) (v := ?_) rfl (by kernel_rfl) (by kernel_rfl) (by kernel_rfl) (fun _ _ _ h => h) (Or.inl ⟨by rfl, ?_⟩) (by assumption) ?_
    rotate_left
    · intro w hSw; (try dsimp only at hSw); go_simp
      try with_reducible rfl
    simp only [Act.put, List.setIfInBounds_toArray, List.set_cons_zero, List.set_cons_succ]
    refine wpAnyH_take (i := 2) (oi := ⟨some 21, Op.load 55 (Operand.tmp 20), 55, "l03_fields.go:163", #[⟨1, Ground.data⟩], none⟩) rfl (by kernel_rfl) (by kernel_rfl) (by kernel_rfl) (fun _ _ _ h => h) (yieldsIf_load_mid (by rfl) _ _ rfl _ _ rfl F _ (fun w hSw => hSw.2.1) hu rfl hiF) (by assumption) ?_
    simp only [Act.put, List.setIfInBounds_toArray, List.set_cons_zero, List.set_cons_succ]
    refine wpAnyH_take (i := 3) (oi := ⟨some 22, Op.fieldAddr 57 (Operand.tmp 3) 1, 0, "l03_fields.go:163", #[], none⟩) (v := ?_) rfl (by kernel_rfl) (by kernel_rfl) (by kernel_rfl) (fun _ _ _ h => h) (Or.inl ⟨by rfl, ?_⟩) (by assumption) ?_
    rotate_left
    · intro w hSw; (try dsimp only at hSw); go_simp
      try with_reducible rfl
    simp only [Act.put, List.setIfInBounds_toArray, List.set_cons_zero, List.set_cons_succ]
    refine wpAnyH_take (i := 4) (oi := ⟨some 23, Op.load 3 (Operand.tmp 22), 3, "l03_fields.go:163", #[⟨3, Ground.data⟩], none⟩) (v := ?_) rfl (by kernel_rfl) (by kernel_rfl) (by kernel_rfl) (fun _ _ _ h => h) (Or.inl ⟨by rfl, ?_⟩) (by assumption) ?_
    rotate_left
    · intro w hSw; (try dsimp only at hSw); go_simp
      try with_reducible rfl
    simp only [Act.put, List.setIfInBounds_toArray, List.set_cons_zero, List.set_cons_succ]
    refine wpAnyH_take (i := 5) (oi := ⟨some 24, Op.fieldAddr 57 (Operand.tmp 3) 0, 0, "l03_fields.go:163", #[], none⟩) (v := ?_) rfl (by kernel_rfl) (by kernel_rfl) (by kernel_rfl) (fun _ _ _ h => h) (Or.inl ⟨by rfl, ?_⟩) (by assumption) ?_
    rotate_left
    · intro w hSw; (try dsimp only at hSw); go_simp
      try with_reducible rfl
    simp only [Act.put, List.setIfInBounds_toArray, List.set_cons_zero, List.set_cons_succ]
    refine wpAnyH_take (i := 6) (oi := ⟨some 25, Op.load 2 (Operand.tmp 24), 2, "l03_fields.go:163", #[⟨5, Ground.data⟩], none⟩) (v := ?_) rfl (by kernel_rfl) (by kernel_rfl) (by kernel_rfl) (fun _ _ _ h => h) (Or.inl ⟨by rfl, ?_⟩) (by assumption) ?_
    rotate_left
    · intro w hSw; (try dsimp only at hSw); go_simp
      try with_reducible rfl
    simp only [Act.put, List.setIfInBounds_toArray, List.set_cons_zero, List.set_cons_succ]
    refine wpAnyH_take (i := 8) (oi := ⟨some 27, Op.fieldAddr 57 (Operand.tmp 3) 0, 0, "l03_fields.go:163", #[], none⟩) (v := ?_) rfl (by kernel_rfl) (by kernel_rfl) (by kernel_rfl) (fun _ _ _ h => h) (Or.inl ⟨by rfl, ?_⟩) (by assumption) ?_
    rotate_left
    · intro w hSw; (try dsimp only at hSw); go_simp
      try with_reducible rfl
    simp only [Act.put, List.setIfInBounds_toArray, List.set_cons_zero, List.set_cons_succ]
    refine wpAnyH_take (i := 9) (oi := ⟨some 28, Op.load 2 (Operand.tmp 27), 2, "l03_fields.go:163", #[⟨8, Ground.data⟩], none⟩) (v := ?_) rfl (by kernel_rfl) (by kernel_rfl) (by kernel_rfl) (fun _ _ _ h => h) (Or.inl ⟨by rfl, ?_⟩) (by assumption) ?_
    rotate_left
    · intro w hSw; (try dsimp only at hSw); go_simp
      try with_reducible rfl
    simp only [Act.put, List.setIfInBounds_toArray, List.set_cons_zero, List.set_cons_succ]
    refine wpAnyH_ready (rs := [7]) (by kernel_rfl) (by simp) ?_
    refine AllReadyH.cons rfl (fun K hK => ?_) AllReadyH.nil
    go_simp
    go_wp2_with (go_at_call 95; refine (HR.out _).mono ?_; rintro e w4 ⟨rfl, b4⟩; have M4 := Sm.next hlen2.out b4 (by with_reducible assumption))
    refine hK.out _ _ ?_ (fun hHeld => ?_)
    · refine heldm HF.out ?_; with_reducible assumption
    clear hK K
    refine wpAnyH_ready (rs := [10]) (by kernel_rfl) (by simp) ?_
    refine AllReadyH.cons rfl (fun K hK => ?_) AllReadyH.nil
    go_simp
    go_wp2_with (go_at_call 96; refine (HN.out _).mono ?_; rintro e w5 ⟨rfl, b5⟩; have M5 := Sm.next hlen2.out b5 M4; have SB := Lib.hid M5.out.1.2)
    refine hK.out _ _ ?_ (fun hHeld => ?_)
    · refine heldm HF.out ?_; with_reducible assumption
    clear hK K
    refine wpAnyH_take (i := 11) (oi := ⟨some 6, Op.assign (Operand.tmp 29), 2, "l03_fields.go:163", #[⟨10, Ground.data⟩, ⟨10, Ground.chain⟩, ⟨0, Ground.phase⟩, ⟨1, Ground.phase⟩, ⟨2, Ground.phase⟩, ⟨3, Ground.phase⟩, ⟨4, Ground.phase⟩, ⟨5, Ground.phase⟩, ⟨6, Ground.phase⟩, ⟨7, Ground.phase⟩, ⟨8, Ground.phase⟩, ⟨9, Ground.phase⟩, ⟨10, Ground.phase⟩], none⟩) (v := ?_) rfl (by kernel_rfl) (by kernel_rfl) (by kernel_rfl) (fun _ _ _ h => h) (Or.inl ⟨by rfl, ?_⟩) (by assumption) ?_
    rotate_left
    · intro w hSw; (try dsimp only at hSw); go_simp
      try with_reducible rfl
    simp only [Act.put, List.setIfInBounds_toArray, List.set_cons_zero, List.set_cons_succ]
    refine wpAnyH_done (by kernel_rfl) ?_ _
    go_wp2
    go_ret
    exact ⟨rfl, SB.out⟩
end Go.Proofs.Ytmlcdbjibngnkaa
