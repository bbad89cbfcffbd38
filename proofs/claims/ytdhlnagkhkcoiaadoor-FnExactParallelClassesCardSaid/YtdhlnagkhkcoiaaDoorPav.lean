/- Parallel classes: the numbers; parallelism is an equivalence. -/
import Derived.Test.YtdhlnagkhkcoiaaDoorPla
import Derived.Test.YtdhlnagkhkcoiaaDoorPlm
import Derived.Test.YtdhlnagkhkcoiaaDoorHas
import Derived.Test.YtdhlnagkhkcoiaaDoorRowc
namespace Go.Proofs.YtdhlnagkhkcoiaaDoor
open Go.RowKit Go.Shelf
set_option linter.unusedVariables false
set_option linter.unusedSimpArgs false

def meetB (r s : List Int) : Bool := r.any (fun x => decide (x ∈ s))
theorem meetB_iff {r s : List Int} : meetB r s = true ↔ ∃ x, x ∈ r ∧ x ∈ s := by
  unfold meetB
  rw [List.any_eq_true]
  simp
def parQ (xss : List (List Int)) (i j : Nat) : Bool := decide (i = j) || !(meetB (xss.getD i []) (xss.getD j []))
noncomputable def ParallelClasses_0 (n : Int) (xss : List (List Int)) : List (List Int) := if affB n xss = true then clsL (parQ xss) xss.length else []
noncomputable def ParallelClasses_1 (n : Int) (xss : List (List Int)) : Int := if desB n xss = true then (if affB n xss = true then 0 else 6) else 1
theorem pc_no {n : Int} {xss : List (List Int)} (h : desB n xss = false) : ParallelClasses_0 n xss = [] ∧ ParallelClasses_1 n xss = 1 := by
  unfold ParallelClasses_0 ParallelClasses_1
  have : affB n xss = false := by unfold affB; rw [h]; rfl
  rw [h, this]; exact ⟨rfl, rfl⟩
theorem pc_state {n : Int} {xss : List (List Int)} (h : desB n xss = true) (h2 : affB n xss = false) : ParallelClasses_0 n xss = [] ∧ ParallelClasses_1 n xss = 6 := by
  unfold ParallelClasses_0 ParallelClasses_1
  rw [h, h2]; exact ⟨rfl, rfl⟩
theorem pc_ok {n : Int} {xss : List (List Int)} (h : desB n xss = true) (h2 : affB n xss = true) : ParallelClasses_0 n xss = clsL (parQ xss) xss.length ∧ ParallelClasses_1 n xss = 0 := by
  unfold ParallelClasses_0 ParallelClasses_1
  rw [h, h2]; exact ⟨rfl, rfl⟩
theorem tot_map {α : Type} (f : α → List Int) : ∀ l : List α, (∀ a ∈ l, (f a).length ≤ 128) → tot (l.map f) ≤ l.length * 129
  | [], _ => by simp [tot]
  | a :: l, h => by
    have h1 := tot_map f l (fun b hb => h b (List.mem_cons_of_mem _ hb))
    have h2 := h a (List.mem_cons_self ..)
    rw [List.map_cons, List.length_cons]
    unfold tot at h1 ⊢
    simp only [List.map_cons, List.sum_cons, List.foldl_cons, List.length_cons] at h1 ⊢
    omega
theorem lenParallelClasses_0 (n : Int) (xss : List (List Int)) : tot (ParallelClasses_0 n xss) ≤ 2000000 := by
  unfold ParallelClasses_0
  split
  · rename_i h
    have D : Des n xss := of_desB (by unfold affB at h; simp only [Bool.and_eq_true] at h; exact h.1)
    unfold clsL
    have a := tot_map (rowP (parQ xss) xss.length) (ldrs (parQ xss) xss.length) (fun r _ => Nat.le_trans (rowP_len _ _ _) D.2.2.1)
    have b : (ldrs (parQ xss) xss.length).length ≤ 128 := by rw [ldrs_len]; exact Nat.le_trans (plc_le _ _) D.2.2.1
    have c : (ldrs (parQ xss) xss.length).length * 129 ≤ 128 * 129 := Nat.mul_le_mul_right _ b
    omega
  · simp [tot]

theorem rises_fls' {N : Nat} {xs : List Int} (h : Rises 0 ((N : Int) - 1) xs) : fls N (fun k => decide ((k : Int) ∈ xs)) = xs := by
  refine sorted_ext _ _ (fls_sorted _ _) (rises_sorted h) fun z => ?_
  rw [fls_mem]
  constructor
  · rintro ⟨k, h1, h2, rfl⟩
    exact of_decide_eq_true h2
  · intro hz
    obtain ⟨i, hi, e⟩ := List.mem_iff_getElem.1 hz
    have hb := h i hi
    have e2 : xs.getD i 0 = z := by rw [List.getD_eq_getElem?_getD, List.getElem?_eq_getElem hi]; exact e
    unfold okAt at hb
    rw [e2] at hb
    exact ⟨z.toNat, by omega, decide_eq_true (by rw [show ((z.toNat : Nat) : Int) = z by omega]; exact hz), by omega⟩
theorem mem_prA' {n : Nat} {f : Nat → Nat → Nat} {a b : Nat} (hab : a < b) (hb : b < n) : ∀ k, a < k → ((f a b : Nat) : Int) ∈ prA n f k
  | 0, h => by omega
  | k + 1, h => by
    rw [prA, List.mem_append]
    by_cases c : a = k
    · refine .inr ?_
      subst c
      unfold seg
      rw [List.mem_map]
      exact ⟨b - (a + 1), by rw [List.mem_range]; omega, by rw [show a + 1 + (b - (a + 1)) = b by omega]⟩
    · exact .inl (mem_prA' hab hb k (by omega))
theorem sameL_mem' {xs : List Int} (h : sameL xs = true) : ∀ x ∈ xs, x = xs.getD 0 0 := fun x hx => by
  unfold sameL at h
  have := List.all_eq_true.1 h x hx
  simpa using this

theorem of_affB {n : Int} {xss : List (List Int)} (h : affB n xss = true) : ∃ N k : Nat, n = N ∧ kzI xss = k ∧ Des (N : Int) xss ∧ Aff N xss.length k (memP xss) := by
  unfold affB at h
  simp only [Bool.and_eq_true, decide_eq_true_eq] at h
  obtain ⟨hd, hp, h1, hn⟩ := h
  have D := of_desB hd
  obtain ⟨N, rfl⟩ : ∃ N : Nat, n = N := ⟨n.toNat, by have := D.1; omega⟩
  obtain ⟨k, hk⟩ := kz_nat xss
  obtain ⟨k2, k32⟩ := kz_le D hp hk
  unfold dPar parO at hp
  simp only [Bool.and_eq_true, decide_eq_true_eq, Int.toNat_natCast] at hp
  unfold pzI at h1
  rw [Int.toNat_natCast] at h1
  obtain ⟨p1, p2, p3, p4, p5⟩ := hp
  refine ⟨N, k, rfl, hk, D, ⟨?_, k2, fun i hi => ?_, ?_⟩⟩
  · rw [hk] at hn
    have : (N : Int) = ((k * k : Nat) : Int) := by rw [Int.natCast_mul]; exact hn
    omega
  · have e := sameL_mem' p4 ((lens xss).getD i 0) (by
      rw [List.getD_eq_getElem?_getD, List.getElem?_eq_getElem (by unfold lens; rw [stL_len]; exact hi)]
      exact List.getElem_mem _)
    have e2 : (lens xss).getD i 0 = (((xss.getD i []).length : Nat) : Int) := stL_getD _ _ _ hi
    have hr := (D.2.2.2 i hi).1.2
    have e3 : (xss.getD i []).length = cnt N (memP xss i) := by
      have := rises_fls' hr
      rw [← cnt_fls]
      exact (congrArg List.length this).symm
    unfold kzI at hk
    omega
  · have key : ∀ x y, x < y → y < N → cnt xss.length (fun i => memP xss i x && memP xss i y) = 1 := fun x y hxy hy => by
      have e := sameL_mem' p5 _ (mem_prA' (f := prF xss.length (memP xss)) hxy hy N (by omega))
      rw [h1] at e
      have : prF xss.length (memP xss) x y = 1 := by omega
      exact this
    intro x y hx hy hne
    rcases Nat.lt_or_gt_of_ne hne with c | c
    · exact key x y c hy
    · rw [← key y x c hx]
      exact cnt_congr fun i _ => Bool.and_comm _ _
theorem parQ_iff {N : Nat} {xss : List (List Int)} (D : Des (N : Int) xss) {i j : Nat} (hi : i < xss.length) : parQ xss i j = true ↔ prl N (memP xss) i j := by
  unfold parQ prl
  rw [Bool.or_eq_true, decide_eq_true_eq]
  refine or_congr Iff.rfl ?_
  rw [Bool.not_eq_true']
  constructor
  · intro h x hx ⟨a, b⟩
    have : meetB (xss.getD i []) (xss.getD j []) = true := meetB_iff.2 ⟨x, of_decide_eq_true a, of_decide_eq_true b⟩
    rw [h] at this; cases this
  · intro h
    cases hm : meetB (xss.getD i []) (xss.getD j []) with
    | false => rfl
    | true =>
      obtain ⟨x, h1, h2⟩ := meetB_iff.1 hm
      obtain ⟨q, hq, e⟩ := List.mem_iff_getElem.1 h1
      have hb := (D.2.2.2 i hi).1.2 q hq
      have e2 : (xss.getD i []).getD q 0 = x := by rw [List.getD_eq_getElem?_getD, List.getElem?_eq_getElem hq]; exact e
      unfold okAt at hb
      rw [e2] at hb
      obtain ⟨y, rfl⟩ : ∃ y : Nat, x = y := ⟨x.toNat, by omega⟩
      exact absurd ⟨decide_eq_true h1, decide_eq_true h2⟩ (h y (by omega))
theorem parQ_equ {n : Int} {xss : List (List Int)} (h : affB n xss = true) : Equ xss.length (parQ xss) := by
  obtain ⟨N, k, rfl, hk, D, A⟩ := of_affB h
  refine ⟨fun i => by unfold parQ; rw [decide_eq_true rfl]; rfl, fun i j hq => ?_, fun i j l hi hj hl h1 h2 => ?_⟩
  · unfold parQ at hq ⊢
    rw [Bool.or_eq_true, decide_eq_true_eq, Bool.not_eq_true'] at hq ⊢
    rcases hq with e | e
    · exact .inl e.symm
    · right
      cases hm : meetB (xss.getD j []) (xss.getD i []) with
      | false => rfl
      | true =>
        obtain ⟨x, a, b⟩ := meetB_iff.1 hm
        rw [meetB_iff.2 ⟨x, b, a⟩] at e; cases e
  · exact (parQ_iff D hi).2 (A.trans hi hj hl ((parQ_iff D hi).1 h1) ((parQ_iff D hj).1 h2))

/-! Parallel classes: the model's. -/
section
open Go.RowKit Go.Shelf
set_option linter.unusedVariables false
set_option linter.unusedSimpArgs false

theorem meetB_take {r s : List Int} {k : Nat} (h : k < r.length) : meetB (r.take (k + 1)) s = (meetB (r.take k) s || decide (r.getD k 0 ∈ s)) := by
  unfold meetB
  rw [takeI_getD h, List.any_append]
  simp
set_option maxRecDepth 100000 in
set_option maxHeartbeats 1000000 in
theorem sMeet (r s : List Int) (w : World) (u v : Value) (hu : IntsAt w u r) (hv : IntsAt w v s) :
    Calls Tryd.prog 58 #[u, v] w fun e w' => e = .returned (.bool (meetB r s)) ∧ w' = w := by
  obtain ⟨ua, uc, rfl, hul, hus⟩ := hu.shape
  obtain ⟨va, vc, rfl, -, -⟩ := hv.shape
  obtain ⟨l, hl⟩ : ∃ l, r.length = l := ⟨_, rfl⟩
  rw [hl] at hul hus ⊢
  have HC := Lib.hid hus
  have HH := Lib.hid (fun x => shas w _ s x hv)
  have MT : Hid (∀ k, k < l → meetB (r.take (k + 1)) s = (meetB (r.take k) s || decide (r.getD k 0 ∈ s))) := fun k hk => meetB_take (by omega)
  have ME : Hid (meetB (r.take l) s = meetB r s) := by rw [List.take_of_length_le (by omega)]; rfl
  have MY : Hid (∀ k, k < l → r.getD k 0 ∈ s → meetB r s = true) := fun k hk h => meetB_iff.2 ⟨_, by
    rw [List.getD_eq_getElem?_getD, List.getElem?_eq_getElem (by omega)]; exact List.getElem_mem _, h⟩
  clear hu hv hus hl
  go_enter Tryd.func58, Tryd.ntmps58
  go_wp2
  go_loop [5] (fun i => ∃ j : Nat, j ≤ l ∧ i = .int .i64 j ∧ Hid (meetB (r.take j) s = false)) (fun i => l - (intOf i).toNat)
  case atStart => exact ⟨0, by omega, rfl, rfl⟩
  case round =>
    obtain ⟨j, hj, rfl, hN⟩ := hrel
    by_cases c : j < l
    · have g1 : decide (j < l) = true := by simpa using c
      have g1' : decide ((j : Int) < (l : Int)) = true := decide_eq_true (by omega)
      obtain ⟨g, off, rfl, cj⟩ := HC.out j c
      have T := MT.out j c
      have Y := Lib.hid (MY.out j c)
      obtain ⟨x, hx⟩ : ∃ x, r.getD j 0 = x := ⟨_, rfl⟩
      rw [hx] at cj T Y
      have j0 : (0 : Int) ≤ (j : Int) := by omega
      have j1 : (j : Int) < (l : Int) := by omega
      have w3 := IntWalk.i64_in ((j : Int) + 1) (by omega)
      have HHx := Lib.hid (HH.out x)
      clear hx
      by_cases e : x ∈ s
      · rw [decide_eq_true e] at HHx
        have V := Lib.hid (Y.out e)
        clear e T
        go_wp2_with fail
        refine HHx.out.mono ?_
        rintro e w5 ⟨rfl, rfl⟩
        go_wp2
        go_ret
        exact ⟨by rw [V.out]; rfl, rfl⟩
      · rw [decide_eq_false e] at HHx T
        rw [hN.out] at T
        have T := Lib.hid T
        clear e
        go_wp2_with fail
        refine HHx.out.mono ?_
        rintro e w5 ⟨rfl, rfl⟩
        go_wp2
        go_round
        case rel => exact ⟨j + 1, by omega, by go_num, T.out⟩
        case measure => simp [intOf]; omega
    · have g1 : decide (j < l) = false := by simpa using c
      have g1' : decide ((j : Int) < (l : Int)) = false := decide_eq_false (by omega)
      obtain rfl : j = l := by omega
      have V : Hid (meetB r s = false) := ME.out.symm.trans hN.out
      go_wp2
      go_ret
      exact ⟨by rw [V.out]; rfl, rfl⟩

theorem RowsL.rowI {w : World} {B L : Nat} {v : Value} {xss : List (List Int)} {n : Nat} (h : RowsL w B L v xss) (hn : xss.length = n) {j : Nat} (hj : j < n) :
    ∃ g cap u, v = .slice (some ⟨g, 0, none⟩) n cap ∧ w.cell? ⟨g, j, none⟩ = some u ∧ IntsAt w u (xss.getD j []) := by
  obtain ⟨us, e, ho, h1, h2, hr, hd⟩ := h
  have hz := hr j (by omega)
  have ho' := ho
  rcases ho.2 with ⟨_, h3⟩ | ⟨g, cap, cur, rfl, _⟩
  · omega
  · have c := ho'.cellAt j (by omega)
    rw [List.getElem?_eq_getElem (show j < us.length by omega)] at c
    have eu : us.getD j undef = us[j]'(by omega) := by simp [List.getD, show j < us.length by omega]
    rw [eu] at hz
    exact ⟨g, cap, _, by rw [hn], c, hz.at⟩

theorem RowsL.belowL {w w' : World} {B L B' : Nat} {v : Value} {xss : List (List Int)} (h : RowsL w B L v xss) (hb : Below B' w w') (hs : L ≤ B') : RowsL w' B L v xss := by
  obtain ⟨us, e, ho, h1, h2, hr, hd⟩ := h
  exact ⟨us, e, ownsRow_of_block ho (fun k e => hb.block k (by have := h1 k e; omega)), h1, Nat.le_trans h2 hb.size,
    fun j hj => ⟨ownsRow_of_block (hr j hj).1 (fun k e => hb.block k (by have := (hr j hj).2.1 k e; omega)), (hr j hj).2.1, Nat.le_trans h2 hb.size⟩, hd⟩
theorem size_setC (w : World) (p : Addr) (v : Value) : (w.setCell p v).heap.size = w.heap.size := by simp [World.setCell]
/-- Which class is found below k. -/
def atF (Q : Nat → Nat → Bool) (i k : Nat) : Int := if ldr Q i < i ∧ plc Q (ldr Q i) < k then (plc Q (ldr Q i) : Int) else -1
theorem atF_yes {Q : Nat → Nat → Bool} {m i k r : Nat} (h : Equ m Q) (hi : i < m) (hr : r < i) (hrr : ldr Q r = r) (hp : plc Q r = k) (hq : Q r i = true) : atF Q i (k + 1) = k := by
  have e := ldr_same h (by omega) hi hq
  rw [hrr] at e
  unfold atF
  rw [← e, hp, if_pos ⟨hr, Nat.lt_succ_self k⟩]
theorem atF_no {Q : Nat → Nat → Bool} {m i k r : Nat} (h : Equ m Q) (hi : i < m) (hr : r < i) (hrr : ldr Q r = r) (hp : plc Q r = k) (hq : Q r i = false) : atF Q i (k + 1) = atF Q i k := by
  have hne : ¬ (ldr Q i < i ∧ plc Q (ldr Q i) = k) := fun ⟨c, e⟩ => by
    have a := ldrs_get Q i r hr hrr
    have b := ldrs_get Q i (ldr Q i) c (ldr_rep h hi)
    rw [hp] at a
    rw [e, a] at b
    simp only [Option.some.injEq] at b
    have := ldr_rel h i
    rw [← b, hq] at this; cases this
  unfold atF
  by_cases c : ldr Q i < i
  · by_cases d : plc Q (ldr Q i) < k
    · rw [if_pos ⟨c, by omega⟩, if_pos ⟨c, d⟩]
    · have : ¬ plc Q (ldr Q i) = k := fun e => hne ⟨c, e⟩
      rw [if_neg (fun x => by have := x.2; omega), if_neg (fun x => d x.2)]
  · rw [if_neg (fun x => c x.1), if_neg (fun x => c x.1)]
theorem atF_all {Q : Nat → Nat → Bool} {m i : Nat} (h : Equ m Q) (hi : i < m) : (ldr Q i = i ∧ atF Q i (plc Q i) = -1) ∨ (ldr Q i < i ∧ atF Q i (plc Q i) = plc Q (ldr Q i) ∧ plc Q (ldr Q i) < plc Q i) := by
  have l := ldr_le Q i
  by_cases c : ldr Q i = i
  · exact .inl ⟨c, by unfold atF; rw [if_neg (by omega)]⟩
  · have lt := plc_lt Q (show ldr Q i < i by omega) (ldr_rep h hi)
    exact .inr ⟨by omega, by unfold atF; rw [if_pos ⟨by omega, lt⟩], lt⟩

set_option maxRecDepth 100000 in
set_option maxHeartbeats 4000000 in
theorem s12Classes (xss : List (List Int)) (hE : Equ xss.length (parQ xss)) (hm : xss.length ≤ 128) (w : World) (v : Value) (g : Nat) (c1 : w.cell? ⟨g, 1, none⟩ = some v) (hv : RowsAt w v xss) :
    Calls Tryd.prog 35 #[.pointer (some ⟨g, 0, none⟩)] w fun e w' => ∃ z, e = .returned z ∧ RowsL w' w.heap.size w'.heap.size z (clsL (parQ xss) xss.length) ∧ Below w.heap.size w w' := by
  obtain ⟨B, hB⟩ : ∃ B, w.heap.size = B := ⟨_, rfl⟩
  have lg : g < B := by rw [← hB]; exact World.block_lt_of_cell? w _ c1
  obtain ⟨a, cap, rfl, K0⟩ := hv.rowsIn
  rw [hB] at K0
  obtain ⟨m, hmm⟩ : ∃ m, xss.length = m := ⟨_, rfl⟩
  rw [hmm] at hE hm K0 c1 ⊢
  obtain ⟨Q, hQ⟩ : ∃ Q, parQ xss = Q := ⟨_, rfl⟩
  rw [hQ] at hE ⊢
  have DC := Lib.hid (fun W (h : Below B w W) => (show W.cell? ⟨g, 1, none⟩ = some (.slice a m cap) from (h.cell (p := ⟨g, 1, none⟩) lg).trans c1))
  obtain ⟨w1, hw1⟩ : ∃ w1, w.alloc (.cells #[] 60) = w1 := ⟨_, rfl⟩
  have b1 : Hid (Below B w w1) := by rw [← hw1]; exact (Below.refl _ _).alloc (by omega) _
  have R1 : Hid (RowsL w1 B w1.heap.size (.slice (some ⟨B, 0, none⟩) 0 0) (clsL Q 0)) := by
    have := RowsL.made w B 0 #[] (by omega) (by decide) rfl
    rw [← World.size_alloc w (.cells #[] 60), hw1, hB] at this
    exact this
  have HM : Hid (∀ r i, r < i → ∀ W u v, IntsAt W u (xss.getD r []) → IntsAt W v (xss.getD i []) → Calls Tryd.prog 58 #[u, v] W fun e w' => e = .returned (.bool (!(Q r i))) ∧ w' = W) := fun r i hri W u v hu hv => by
    have := sMeet _ _ W u v hu hv
    have e : (!(Q r i)) = meetB (xss.getD r []) (xss.getD i []) := by
      rw [← hQ]; unfold parQ; rw [decide_eq_false (by omega)]; simp
    rw [e]; exact this
  have CL : Hid (∀ i, (clsL Q i).length = plc Q i) := clsL_len Q
  have PL : Hid (∀ i, plc Q i ≤ i) := plc_le Q
  have CH : Hid (∀ i k, i ≤ m → k < plc Q i → ∃ r, r < i ∧ ldr Q r = r ∧ plc Q r = k ∧ (clsL Q i).getD k [] = rowP Q i r ∧ (rowP Q i r).getD 0 0 = (r : Int) ∧ 0 < (rowP Q i r).length) := fun i k hi hk => clsL_head hE hi (by rw [clsL_len]; exact hk)
  have CN : Hid (∀ i, ldr Q i = i → clsL Q i ++ [[(i : Int)]] = clsL Q (i + 1)) := fun i h => (clsL_new h).symm
  have CO : Hid (∀ i, i < m → ldr Q i < i → (clsL Q i).set (plc Q (ldr Q i)) ((clsL Q i).getD (plc Q (ldr Q i)) [] ++ [(i : Int)]) = clsL Q (i + 1)) := fun i hi h => (clsL_old rfl h (ldr_rep hE hi)).symm
  have AY : Hid (∀ i k r, i < m → r < i → ldr Q r = r → plc Q r = k → Q r i = true → atF Q i (k + 1) = k) := fun i k r h1 h2 h3 h4 h5 => atF_yes hE h1 h2 h3 h4 h5
  have AN : Hid (∀ i k r, i < m → r < i → ldr Q r = r → plc Q r = k → Q r i = false → atF Q i (k + 1) = atF Q i k) := fun i k r h1 h2 h3 h4 h5 => atF_no hE h1 h2 h3 h4 h5
  have AA : Hid (∀ i, i < m → (ldr Q i = i ∧ atF Q i (plc Q i) = -1) ∨ (ldr Q i < i ∧ atF Q i (plc Q i) = plc Q (ldr Q i) ∧ plc Q (ldr Q i) < plc Q i)) := fun i hi => atF_all hE hi
  have A0 : Hid (∀ i, atF Q i 0 = -1) := fun i => by unfold atF; rw [if_neg (fun x => Nat.not_lt_zero _ x.2)]
  have RL : Hid (∀ i j, ((clsL Q i).getD j []).length ≤ i) := fun i j => by
    by_cases hj : j < (clsL Q i).length
    · have hmem := List.getElem_mem hj
      have e : (clsL Q i).getD j [] = (clsL Q i)[j] := by rw [List.getD_eq_getElem?_getD, List.getElem?_eq_getElem hj]; rfl
      rw [e]
      unfold clsL at hmem
      obtain ⟨r, _, e2⟩ := List.mem_map.1 hmem
      have e3 : (clsL Q i)[j] = rowP Q i r := e2.symm
      rw [e3]; exact rowP_len Q i r
    · rw [List.getD_eq_getElem?_getD, List.getElem?_eq_none (by omega)]; simp
  have KR := Lib.hid K0
  have HB := Lib.hid hB
  clear hv K0 hE hQ c1 lg
  go_enter Tryd.func35, Tryd.ntmps35
  go_wp2
  try rw [hw1]
  try rw [hB]
  clear hw1 hB
  go_loopw [3, 4] (fun cv iv wr => ∃ i : Nat, i ≤ m ∧ iv = .int .i64 i ∧ Hid (RowsL wr B wr.heap.size cv (clsL Q i)) ∧ Hid (Below B w wr)) (fun _ iv _ => m - (intOf iv).toNat)
  case atStart => exact ⟨0, by omega, rfl, R1, b1⟩
  case round =>
    obtain ⟨i, hi, rfl, hR, hBl⟩ := hrel
    have cc1 := DC.out wr hBl.out
    by_cases c : i < m
    · have k1 : decide (i < m) = true := by simpa using c
      have k1' : decide ((i : Int) < (m : Int)) = true := decide_eq_true (by omega)
      have w3 := IntWalk.i64_in ((i : Int) + 1) (by omega)
      have i0 : (0 : Int) ≤ (i : Int) := by omega
      have i1 : (i : Int) < (m : Int) := by omega
      obtain ⟨gx, ox, ui, rfl, hui, hii⟩ := KR.out wr hBl.out i c
      have HROW : Hid (∀ r, r < m → ∃ u, wr.cell? ⟨gx, ox + r, none⟩ = some u ∧ IntsAt wr u (xss.getD r [])) := fun r hr => by
        obtain ⟨g', o', u, e, h1, h2⟩ := KR.out wr hBl.out r hr
        simp only [Option.some.injEq, Addr.mk.injEq, and_true] at e
        obtain ⟨rfl, rfl⟩ := e
        exact ⟨u, h1, h2⟩
      obtain ⟨ca, cc, rfl, -⟩ := hR.out.at.shape
      have CLi := CL.out i
      have PLi := PL.out i
      rw [CLi] at hR ⊢
      have HHD : Hid (∀ k, k < plc Q i → ∃ gc r g4 o4 c4 u l4, ca = some ⟨gc, 0, none⟩ ∧ r < i ∧ ldr Q r = r ∧ plc Q r = k ∧ wr.cell? ⟨gc, k, none⟩ = some (.slice (some ⟨g4, o4, none⟩) l4 c4) ∧ 0 < l4 ∧ wr.cell? ⟨g4, o4, none⟩ = some (.int .i64 (r : Int)) ∧ wr.cell? ⟨gx, ox + r, none⟩ = some u ∧ IntsAt wr u (xss.getD r [])) := fun k hk => by
        obtain ⟨r, h1, h2, h3, h4, h5, h6⟩ := CH.out i k hi hk
        obtain ⟨gc, cap', uu, e, q1, q2⟩ := hR.out.rowI CLi hk
        rw [h4] at q2
        obtain ⟨g4, o4, c4, rfl, q3⟩ := q2.first rfl h6
        rw [h5] at q3
        obtain ⟨u, q4, q5⟩ := HROW.out r (by omega)
        simp only [Value.slice.injEq, true_and] at e
        exact ⟨gc, r, g4, o4, c4, u, _, e.1, h1, h2, h3, q1, h6, q3, q4, q5⟩
      have HMi := Lib.hid (fun r (hr : r < i) W u (hu : IntsAt W u (xss.getD r [])) (hW : IntsAt W ui (xss.getD i [])) => HM.out r i hr W u ui hu hW)
      have X2 := Lib.hid (fun (W : World) (e : W.heap = wr.heap) => hii.ofHeap e)
      have RLi := Lib.hid (fun j => RL.out i j)
      have A0i := A0.out i
      have AYi := Lib.hid (fun k r => AY.out i k r c)
      have ANi := Lib.hid (fun k r => AN.out i k r c)
      have AAi := Lib.hid (AA.out i c)
      have CNi := Lib.hid (CN.out i)
      have COi := Lib.hid (CO.out i c)
      have SB := hBl.out.size
      have SB : B ≤ wr.heap.size := by have := HB.out; omega
      obtain ⟨q, hq⟩ : ∃ q, plc Q i = q := ⟨_, rfl⟩
      rw [hq] at hR HHD AAi PLi CLi ⊢
      clear hq
      obtain ⟨wq, rfl⟩ : ∃ wq : World, wq = wr := ⟨_, rfl⟩
      obtain ⟨uia, uic, rfl, -, -⟩ := hii.shape
      obtain ⟨li, hli⟩ : ∃ l, (xss.getD i []).length = l := ⟨_, rfl⟩
      rw [hli] at hui X2 HMi
      clear hii hli
      go_wp2
      go_loopw [5, 6] (fun av kv wr => ∃ k : Nat, k ≤ q ∧ kv = .int .i64 k ∧ av = .int .i64 (atF Q i k) ∧ ∃ d, wr = wq.drewN d) (fun _ kv _ => q - (intOf kv).toNat)
      case atStart => exact ⟨0, by omega, rfl, by rw [A0i], 0, rfl⟩
      case round =>
        obtain ⟨k, hk, rfl, rfl, d, rfl⟩ := hrel
        by_cases ck : k < q
        · have k2 : decide (k < q) = true := by simpa using ck
          have k2' : decide ((k : Int) < (q : Int)) = true := decide_eq_true (by omega)
          have w4 := IntWalk.i64_in ((k : Int) + 1) (by omega)
          have j0 : (0 : Int) ≤ (k : Int) := by omega
          have j1 : (k : Int) < (q : Int) := by omega
          obtain ⟨gc, r, g4, o4, c4, u, l4, rfl, hri, hrr, hrp, e1, l40, e2, e3, e4⟩ := HHD.out k ck
          have r0 : (0 : Int) ≤ (r : Int) := by omega
          have r1 : (r : Int) < (m : Int) := by omega
          have l4i : (0 : Int) < (l4 : Int) := by omega
          obtain ⟨ua, uc, rfl, -, -⟩ := e4.shape
          obtain ⟨lu, hlu⟩ : ∃ l, (xss.getD r []).length = l := ⟨_, rfl⟩
          rw [hlu] at e3 e4
          have X1 := Lib.hid (fun (W : World) (e : W.heap = wq.heap) => e4.ofHeap e)
          have HMr := Lib.hid (fun W => HMi.out r hri W (.slice ua lu uc))
          have Y := Lib.hid (AYi.out k r hri hrr hrp)
          have N := Lib.hid (ANi.out k r hri hrr hrp)
          obtain ⟨b, hb⟩ : ∃ b, Q r i = b := ⟨_, rfl⟩
          simp only [hb] at HMr Y N
          clear e4 hlu hb hrr hrp hri
          cases b with
          | true =>
            have Y1 := Lib.hid (Y.out rfl)
            clear Y N
            go_wp2
            go_quiet ((go_at_call 58; first | exact Calls.quiet_of_same (HMr.out _ (X1.out _ rfl) (X2.out _ rfl)) | exact quiet_same2 (HMr.out _ (X1.out _ rfl) (X2.out _ rfl))))
            go_wp2
            go_roundw
            case rel => exact ⟨k + 1, by omega, by go_num, by rw [Y1.out], _, by first | rfl | exact World.drewN_drewN _ _ _⟩
            case measure => simp [intOf]; omega
          | false =>
            have N1 := Lib.hid (N.out rfl)
            clear Y N
            go_wp2
            go_quiet ((go_at_call 58; first | exact Calls.quiet_of_same (HMr.out _ (X1.out _ rfl) (X2.out _ rfl)) | exact quiet_same2 (HMr.out _ (X1.out _ rfl) (X2.out _ rfl))))
            go_wp2
            go_roundw
            case rel => exact ⟨k + 1, by omega, by go_num, by rw [N1.out], _, by first | rfl | exact World.drewN_drewN _ _ _⟩
            case measure => simp [intOf]; omega
        · have k2 : decide (k < q) = false := by simpa using ck
          have k2' : decide ((k : Int) < (q : Int)) = false := decide_eq_false (by omega)
          obtain rfl : k = q := by omega
          obtain ⟨w6, hw6⟩ : ∃ w6, wq.drewN d = w6 := ⟨_, rfl⟩
          have R6 : RowsL w6 B w6.heap.size (.slice ca k cc) (clsL Q i) := by rw [← hw6]; exact hR.out.drewN d
          have B6 : Below B w w6 := by rw [← hw6]; exact below_drewN hBl.out d
          have S6 : B ≤ w6.heap.size := by rw [← hw6]; exact SB
          rw [hw6]
          clear hw6 hR hBl hui cc1
          obtain ⟨X, hX⟩ : ∃ X, clsL Q i = X := ⟨_, rfl⟩
          obtain ⟨X', hX'⟩ : ∃ X, clsL Q (i + 1) = X := ⟨_, rfl⟩
          rw [hX] at R6 CLi RLi CNi COi
          rw [hX'] at CNi COi
          have HX' := Lib.hid hX'
          rcases AAi.out with ⟨h1, h2⟩ | ⟨h1, h2, h3⟩
          · have cn := CNi.out h1
            obtain ⟨w7, hw7⟩ : ∃ w7, w6.alloc (.cells #[.int .i64 (i : Int)] 2) = w7 := ⟨_, rfl⟩
            have b67 : Below w6.heap.size w6 w7 := by rw [← hw7]; exact (Below.refl _ _).alloc (Nat.le_refl _) _
            have R7 : Hid (RowsL w7 B w6.heap.size (.slice ca k cc) X) := R6.below b67 (Nat.le_refl _)
            have I7 : Hid (Ints w7 w6.heap.size (.slice (some ⟨w6.heap.size, 0, none⟩) 1 1) [(i : Int)]) := by
              have := World.ownsRow_lit (base := w6.heap.size) (e := 2) (size := 1) w6 #[.int .i64 (i : Int)] 1 (Nat.le_refl _) (by decide) rfl
              rw [hw7] at this
              exact this
            have B7 : Hid (Below B w w7) := B6.trans (b67.mono S6)
            have xl : X.length < 1000000000 := by omega
            obtain ⟨J, hJ⟩ : ∃ J, w6.heap.size = J := ⟨_, rfl⟩
            rw [hJ] at R7 I7 S6
            rw [h2]
            clear h1 h2 b67 R6 B6 hX hX' RLi
            go_wp2_with (at_builtin; refine wpList_pushR w7 (by rfl) _ _ (by rfl) B J _ (.slice (some ⟨J, 0, none⟩) 1 1) X [(i : Int)] (by rfl) R7.out I7.out _ (by rfl) xl S6 ?_; intro v' w8 hn hb; rw [cn] at hn; have HN := Lib.hid hn; have HB8 := Lib.hid hb; clear hn hb)
            go_roundw
            case rel => exact ⟨i + 1, by omega, by go_num, by unfold Hid; rw [HX'.out]; exact HN.out, B7.out.trans HB8.out⟩
            case measure => simp [intOf]; omega
          · have co := COi.out h1
            obtain ⟨p, hp⟩ : ∃ p, plc Q (ldr Q i) = p := ⟨_, rfl⟩
            rw [hp] at co h2 h3
            obtain ⟨gc, cap', uu, e, q1, q2⟩ := R6.rowI CLi h3
            simp only [Value.slice.injEq, true_and] at e
            obtain ⟨rfl, rfl⟩ := e
            obtain ⟨xa, xc, rfl, -, -⟩ := q2.shape
            obtain ⟨row, hrow⟩ : ∃ row, X.getD p [] = row := ⟨_, rfl⟩
            have rl := RLi.out p
            rw [hrow] at q1 q2 co rl
            have HOW := Lib.hid (sown_at w6 _ row q2 (by omega))
            obtain ⟨lr, hlr⟩ : ∃ l, row.length = l := ⟨_, rfl⟩
            rw [hlr] at q1 HOW
            have p0 : (0 : Int) ≤ (p : Int) := by omega
            have p1 : (p : Int) < (k : Int) := by omega
            have p2 : decide ((p : Int) < 0) = false := decide_eq_false (by omega)
            have R6 := Lib.hid R6
            have B6 := Lib.hid B6
            have rl2 : row.length < 1000000000000 := by omega
            have PX : p < X.length := by omega
            rw [h2]
            clear h1 h2 hp q2 hX hX' hrow hlr
            go_wp2_with fail
            refine HOW.out.mono ?_
            rintro e w7 ⟨v7, rfl, i7, b7⟩
            have R7 := Lib.hid (R6.out.below b7 (Nat.le_refl _))
            have I7 := Lib.hid i7
            have B7 : Hid (Below B w w7) := B6.out.trans (b7.mono S6)
            have s7 := b7.size
            obtain ⟨va7, vc7, rfl⟩ := i7.len_eq
            obtain ⟨J, hJ⟩ : ∃ J, w6.heap.size = J := ⟨_, rfl⟩
            rw [hJ] at R7 I7 S6 s7
            clear i7 b7
            go_wp2_with (at_builtin; (refine wpList_push w7 (by rfl) _ _ (by rfl) J _ row (by rfl) I7.out (i : Int) _ (by rfl) rl2 s7 ?_; intro v8 w8 hn hb; obtain ⟨va8, vc8, hve⟩ := hn.len_eq; obtain ⟨l8, hl8⟩ : ∃ l, (row ++ [(i : Int)]).length = l := ⟨_, rfl⟩; rw [hl8] at hve; subst hve; clear hl8; have R8 := R7.out.belowL hb (Nat.le_refl _); obtain ⟨st, _, ⟨old, hold⟩, hf⟩ := R8.store PX hn S6; rw [co] at st; have ST := Lib.hid st; have B8 : Hid (Below B w (w8.setCell ⟨gc, p, none⟩ (.slice va8 l8 vc8))) := (B7.out.trans (hb.mono S6)).setCell (p := ⟨gc, p, none⟩) R8.block.1 _; have sz := Lib.hid (size_setC w8 ⟨gc, p, none⟩ (.slice va8 l8 vc8)); clear hn hb R8 st))
            go_roundw
            case rel => exact ⟨i + 1, by omega, by go_num, by unfold Hid; rw [HX'.out, sz.out]; exact ST.out, B8⟩
            case measure => simp [intOf]; omega
    · have k1 : decide (i < m) = false := by simpa using c
      have k1' : decide ((i : Int) < (m : Int)) = false := decide_eq_false (by omega)
      obtain rfl : i = m := by omega
      go_wp2
      go_ret
      exact ⟨_, rfl, by rw [HB.out]; exact hR.out, by rw [HB.out]; exact hBl.out⟩
end
end Go.Proofs.YtdhlnagkhkcoiaaDoor
