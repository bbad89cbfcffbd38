/- IdentitiesOf: the program. -/
import Derived.Test.YtigcgpgkpkoodabIdi
import Derived.Deep.MidRow
import Derived.Laws.EntriesVeiled
namespace Go.Proofs.Ytigcgpgkpkoodab
open Go.RowKit Go.Shelf
set_option linter.unusedVariables false
set_option linter.unusedSimpArgs false

def RULES : Array Value := #[Value.nilFunc, .func (.func 51) #[] #[], .func (.func 52) #[] #[], .func (.func 53) #[] #[], .func (.func 54) #[] #[], .func (.func 55) #[] #[], .func (.func 56) #[] #[], .func (.func 57) #[] #[], .func (.func 58) #[] #[]]

set_option maxRecDepth 100000 in
set_option maxHeartbeats 2000000 in
theorem irules (w : World) :
    Calls Try.prog 28 #[] w fun e w' => e = .returned (.agg RULES) ∧ Below w.heap.size w w' := by
  unfold RULES
  go_enter Try.func28, Try.ntmps28
  go_wp2
  refine bodyPost_ret (v := .agg RULES) (results_cell_row Try.results28 _ _ _ _ _ _ _ rfl (heap_alloc_new _ _) Try.underlying46 rfl (by kernel_rfl)) rfl ⟨rfl, (Below.refl _ _).alloc (Nat.le_refl _) _⟩

set_option maxRecDepth 100000 in
set_option maxHeartbeats 4000000 in
theorem iIdentitiesOf (xss : List (List Int)) (hx : SmallLL xss) (W : World) (v : Value) (hv : RowsAt W v xss) :
    Calls Try.prog 10 #[v] W fun e w' => ∃ r, e = .returned (.tuple #[r, .int .i64 (IdentitiesOf_1 xss)]) ∧ Ints w' W.heap.size r (IdentitiesOf_0 xss) ∧ Below W.heap.size W w' := by
  have H0 := Lib.hid (ilsq W v xss hv)
  cases hp : sqB xss with
  | false =>
    have V : Hid (IdentitiesOf_0 xss = [] ∧ IdentitiesOf_1 xss = 1) := by unfold Hid IdentitiesOf_0 IdentitiesOf_1; rw [hp]; exact ⟨rfl, rfl⟩
    rw [hp] at H0
    clear hp hv
    go_enter Try.func10, Try.ntmps10
    go_wp2_with fail
    refine H0.out.mono ?_
    rintro e w4 ⟨m, f, rfl, -, b4⟩
    have st := stores_newSq w4 (sqC m f)
    have B5 : Hid (Below W.heap.size W (w4.alloc (.cells (iar 101 (sqC m f)) 42))) := b4.alloc b4.size _
    clear b4
    go_wp2
    go_ret2
    exact ⟨_, by rw [V.out.2]; rfl, by rw [V.out.1]; exact nilI _ _, B5.out⟩
  | true =>
    have V : Hid (IdentitiesOf_0 xss = idsL xss.length (cellF xss) 9 ∧ IdentitiesOf_1 xss = 0) := by unfold Hid IdentitiesOf_0 IdentitiesOf_1; rw [hp]; exact ⟨rfl, rfl⟩
    have S := of_sqB hp
    rw [hp] at H0
    have nhi := S.hi
    have IQ := S.inSq
    obtain ⟨n, hn⟩ : ∃ n, xss.length = n := ⟨_, rfl⟩
    rw [hn] at H0 V nhi IQ
    have IQ2 : InSq n (sqF n (cellF xss)) := fun x y hx hy => by rw [sqF_in _ hx hy]; exact IQ x y hx hy
    have EI : ∀ k, idB n (sqF n (cellF xss)) k = idB n (cellF xss) k := fun k => id_congr IQ2 (fun x y hx hy => sqF_in _ hx hy) k
    have HH := Lib.hid (fun k k1 k8 => rules n nhi (sqF n (cellF xss)) IQ2 k k1 k8)
    simp only [EI] at HH
    have LY := Lib.hid (fun k (h : idB n (cellF xss) k = true) => ids_yes h)
    have LN := Lib.hid (fun k (h : idB n (cellF xss) k = false) => ids_no h)
    have L1 := Lib.hid (ids_one n (cellF xss))
    have LL := Lib.hid (fun k => fls_len k (idB n (cellF xss)))
    have HR := Lib.hid (fun w => irules w)
    obtain ⟨B, hB⟩ : ∃ B, W.heap.size = B := ⟨_, rfl⟩
    have HB := Lib.hid hB
    simp only [hB] at H0
    clear hp hv hx S hn IQ IQ2 EI
    go_enter Try.func10, Try.ntmps10
    go_wp2_with fail
    refine H0.out.mono ?_
    rintro e w4 ⟨m, f, rfl, hmf2, b4⟩
    obtain ⟨hm1, hm2⟩ := hmf2 (by trivial)
    rw [hm1, hm2]
    clear hmf2 hm1 hm2
    have s4 : B ≤ w4.heap.size := by rw [← hB]; exact b4.size
    obtain ⟨F, hF⟩ : ∃ F, sqF n (cellF xss) = F := ⟨_, rfl⟩
    rw [hF] at HH ⊢
    have st := stores_newSq w4 (sqC n F)
    have b5 : Below B W (w4.alloc (.cells (iar 101 (sqC n F)) 42)) := b4.alloc s4 _
    have A5 : SqAt (w4.alloc (.cells (iar 101 (sqC n F)) 42)) w4.heap.size n F := heap_alloc_new _ _
    obtain ⟨w5, hw5⟩ : ∃ w5, w4.alloc (.cells (iar 101 (sqC n F)) 42) = w5 := ⟨_, rfl⟩
    obtain ⟨g, hg⟩ : ∃ g, w4.heap.size = g := ⟨_, rfl⟩
    rw [hw5] at st b5 A5
    rw [hg] at st A5 s4
    have X5 := Lib.hid A5
    have B5 := Lib.hid b5
    have S4 := Lib.hid s4
    clear b4 b5 A5 hF H0 hB s4
    go_wp2_with fail
    refine (HR.out _).mono ?_
    rintro e w6 ⟨rfl, b6⟩
    clear hg hw5 st
    have A6 := SqAt.below X5.out b6 (Ia.lt X5.out)
    have B6 : Below B W w6 := B5.out.trans (b6.mono (by have := B5.out.size; have := HB.out; omega))
    have g6 : g < w6.heap.size := Ia.lt A6
    obtain ⟨gr, hgr⟩ : ∃ gr, w6.heap.size = gr := ⟨_, rfl⟩
    have A7 : SqAt (w6.alloc (.cells RULES 46)) g n F := (heap_alloc_old _ _ g6).trans A6
    have R7 : (w6.alloc (.cells RULES 46)).heap[gr]? = some (.cells RULES 46 (0, 0)) := by rw [← hgr]; exact heap_alloc_new _ _
    have sB6 : B ≤ w6.heap.size := by rw [← HB.out]; exact B6.size
    have ggr : g < gr := by omega
    have GG := Lib.hid (And.intro ggr S4.out)
    have B7 : Below B W (w6.alloc (.cells RULES 46)) := B6.alloc sB6 _
    have s7 : gr + 1 ≤ (w6.alloc (.cells RULES 46)).heap.size := by rw [World.size_alloc]; omega
    obtain ⟨RS, hRS⟩ : ∃ RS : World → Prop, RS = fun W' => SqAt W' g n F ∧ W'.heap[gr]? = some (.cells RULES 46 (0, 0)) ∧ Below B W W' ∧ gr + 1 ≤ W'.heap.size := ⟨_, rfl⟩
    have X7 : Hid (RS (w6.alloc (.cells RULES 46))) := by rw [hRS]; exact ⟨A7, R7, B7, s7⟩
    have NX : Hid (∀ (b : Nat) (W1 W2 : World), gr + 1 ≤ b → Below b W1 W2 → Hid (RS W1) → Hid (RS W2)) := fun b W1 W2 hb bb h => by
      rw [hRS] at h ⊢
      exact ⟨(bb.block g (by omega)).trans h.out.1, (bb.block gr (by omega)).trans h.out.2.1, h.out.2.2.1.trans (bb.mono (by have := GG.out; omega)), Nat.le_trans h.out.2.2.2 bb.size⟩
    obtain ⟨L, hL⟩ : ∃ L : List Value, (iar 101 (sqC n F)).toList = L := ⟨_, rfl⟩
    have hLA : iar 101 (sqC n F) = L.toArray := by rw [← hL]
    have hLl : L.length = 101 := by rw [← hL, Array.length_toList, iar_size]
    have KEY : Hid (∀ k fn : Nat, RULES[k]? = some (.func (.func fn) #[] #[]) → ∀ W' : World, Hid (RS W') → W'.rangeAt g 0 L ∧ W'.cell? ⟨gr, k, none⟩ = some (.func (.func fn) #[] #[]) ∧ Hid (RS W')) := fun k fn hk W' h => by
      have h' := h
      rw [hRS] at h'
      refine ⟨?_, ?_, h⟩
      · have := World.rangeAt_of_block h'.out.1 0 101
        rwa [Nat.zero_add, show (iar 101 (sqC n F)).extract 0 101 = iar 101 (sqC n F) from by
          have e := iar_size 101 (sqC n F)
          apply Array.extract_eq_self_of_le; omega, hL] at this
      · rw [cell_of_row W' gr k _ _ _ h'.out.2.1]; exact hk
    have RB : Hid (∀ W', Hid (RS W') → Below B W W' ∧ gr + 1 ≤ W'.heap.size) := fun W' h => by rw [hRS] at h; exact ⟨h.out.2.2.1, h.out.2.2.2⟩
    simp only [hLA] at HH
    have iL : (Try.prog.info? 42).map (·.size) = some L.length := by rw [hLl]; exact Try.infoSq
    have uL := Try.underlying42
    obtain ⟨wo, hwo⟩ : ∃ wo, w6.alloc (.cells RULES 46) = wo := ⟨_, rfl⟩
    rw [hwo] at X7
    unfold RULES at hwo
    unfold RULES
    have R0 : Hid (Ints wo (gr + 1) (.slice none 0 0) (idsL n (cellF xss) 1)) := by rw [L1.out]; exact nilI _ _
    clear A6 B6 g6 A7 R7 B7 s7 sB6 b6 hL hLl hLA hRS ggr
    go_wp2
    try rw [hwo]
    clear hwo hgr
    go_loopw [7, 8] (fun rv i wr => ∃ k : Nat, 1 ≤ k ∧ k ≤ 9 ∧ i = .int .i64 k ∧ Hid (Ints wr (gr + 1) rv (idsL n (cellF xss) k)) ∧ Hid (RS wr)) (fun _ i _ => 9 - (intOf i).toNat)
    case atStart => exact ⟨1, by omega, by omega, rfl, R0, X7⟩
    case round =>
      obtain ⟨k, hk1, hk9, rfl, hR, hX⟩ := hrel
      by_cases c : k ≤ 8
      · have t1 : decide ((k : Int) ≤ 8) = true := decide_eq_true (by omega)
        have t1' : decide (k ≤ 8) = true := decide_eq_true c
        have wk := IntWalk.i64_in ((k : Int) + 1) (by omega)
        have k0 : (0 : Int) ≤ (k : Int) := by omega
        have k9 : (k : Int) < 9 := by omega
        obtain ⟨fn, hfn, hcf, HC⟩ := HH.out k hk1 c
        have KY := Lib.hid (KEY.out k fn hfn)
        have HCH := Lib.hid HC
        have Y1 := Lib.hid (LY.out k)
        have N1 := Lib.hid (LN.out k)
        obtain ⟨t, ht⟩ : ∃ t, idB n (cellF xss) k = t := ⟨_, rfl⟩
        simp only [ht] at HCH Y1 N1
        have ln : (idsL n (cellF xss) k).length < 1000000000000 := by have := LL.out k; unfold idsL; omega
        have zr := (RB.out wr hX).2
        have XD := Lib.hid (NX.out _ wr wr.drew zr (Below.refl _ _).drew hX)
        clear ht HC hfn
        go_wp2
        refine wp_region_held_drew (S := fun W => W.rangeAt g 0 L ∧ W.cell? ⟨gr, k, none⟩ = some (.func (.func fn) #[] #[]) ∧ Hid (RS W)) (by kernel_rfl) (KY.out _ XD.out) (fun hHeld => ?_)
        refine wpAnyH_take (i := 0) (oi := { dst := some 21, op := Op.move (Operand.tmp 8), type := 2, pos := "l08_quasigroups.go:117", after := #[], guard := none }) (v := ?_) rfl (by kernel_rfl) (by kernel_rfl) (by kernel_rfl) (fun _ _ _ h => h) (Or.inl ⟨by rfl, ?_⟩) (by assumption) ?_
        rotate_left
        · intro w hSw; (try dsimp only at hSw); go_simp
          try with_reducible rfl
        simp only [Act.put, List.setIfInBounds_toArray, List.set_cons_zero, List.set_cons_succ]
        refine wpAnyH_take (i := 1) (oi := { dst := some 22, op := Op.indexAddr 46 (Operand.tmp 6) (Operand.tmp 21), type := 0, pos := "l08_quasigroups.go:117", after := #[{ on := 0, ground := Ground.data }], guard := none }) (v := ?_) rfl (by kernel_rfl) (by kernel_rfl) (by kernel_rfl) (fun _ _ _ h => h) (Or.inl ⟨by rfl, ?_⟩) (by assumption) ?_
        rotate_left
        · intro w hSw; (try dsimp only at hSw); go_simp
          try with_reducible rfl
        simp only [Act.put, List.setIfInBounds_toArray, List.set_cons_zero, List.set_cons_succ]
        refine wpAnyH_take (i := 2) (oi := { dst := some 23, op := Op.load 45 (Operand.tmp 22), type := 45, pos := "l08_quasigroups.go:117", after := #[{ on := 1, ground := Ground.data }], guard := none }) (v := ?_) rfl (by kernel_rfl) (by kernel_rfl) (by kernel_rfl) (fun _ _ _ h => h) (Or.inl ⟨by rfl, ?_⟩) (by assumption) ?_
        rotate_left
        · intro w hSw; (try dsimp only at hSw); go_simp
          try with_reducible rfl
        simp only [Act.put, List.setIfInBounds_toArray, List.set_cons_zero, List.set_cons_succ]
        refine wpAnyH_take (i := 3) (oi := { dst := some 24, op := Op.load 42 (Operand.tmp 4), type := 42, pos := "l08_quasigroups.go:117", after := #[], guard := none }) rfl (by kernel_rfl) (by kernel_rfl) (by kernel_rfl) (fun _ _ _ h => h) (yieldsIf_load_mid (by rfl) _ _ rfl g 0 rfl L _ (fun w hSw => hSw.1) uL rfl iL) (by assumption) ?_
        simp only [Act.put, List.setIfInBounds_toArray, List.set_cons_zero, List.set_cons_succ]
        refine wpAnyH_ready (rs := [4]) (by kernel_rfl) (by simp) ?_
        refine AllReadyH.cons rfl (fun K hK => ?_) AllReadyH.nil
        go_simp
        go_wp2_with fail
        refine (HCH.out _).mono ?_
        rintro e w7 ⟨rfl, b7⟩
        have X8 := Lib.hid (NX.out _ _ _ (show gr + 1 ≤ wr.drew.heap.size from zr) b7 XD.out)
        have s8 := b7.size
        have R8 : Hid (Ints w7 (gr + 1) u7 (idsL n (cellF xss) k)) := Ints.below (show Ints wr.drew (gr + 1) u7 (idsL n (cellF xss) k) from hR.out) b7 (Nat.le_refl _)
        clear b7
        refine hK.out _ _ (KY.out _ X8.out) (fun hHeld => ?_)
        clear hK K
        refine wpAnyH_done (by kernel_rfl) ?_ _
        obtain ⟨M8, z8⟩ := RB.out _ X8.out
        have HM8 := Lib.hid M8
        clear M8 KY XD hX hR HCH hcf
        cases t with
        | false =>
          have R9 : Hid (Ints w7 (gr + 1) u7 (idsL n (cellF xss) (k + 1))) := by rw [← N1.out rfl]; exact R8.out
          go_wp2
          go_roundw
          case rel => exact ⟨k + 1, by omega, by omega, by go_num, R9, X8.out⟩
          case measure => simp [intOf]; omega
        | true =>
          have Y2 := Lib.hid (Y1.out rfl)
          go_wp2_with (at_builtin; refine wpList_push w7 (by rfl) _ _ (by rfl) (gr + 1) _ _ (by rfl) R8.out (k : Int) _ (by rfl) ln z8 ?_; intro v' w8 hn hb; have HN := Lib.hid hn; have HB8 := Lib.hid hb; clear hn hb)
          go_roundw
          case rel => exact ⟨k + 1, by omega, by omega, by go_num, by unfold Hid; rw [← Y2.out]; exact HN.out, NX.out _ _ _ (Nat.le_refl _) HB8.out X8.out⟩
          case measure => simp [intOf]; omega
      · have t1 : decide ((k : Int) ≤ 8) = false := decide_eq_false (by omega)
        have t1' : decide (k ≤ 8) = false := decide_eq_false c
        obtain rfl : k = 9 := by omega
        obtain ⟨M8, z8⟩ := RB.out _ hX.out
        have HM8 := Lib.hid M8
        go_wp2
        go_ret2
        exact ⟨_, by rw [V.out.2]; rfl, by rw [V.out.1, HB.out]; exact hR.out.mono (by have := GG.out; omega), by rw [HB.out]; exact HM8.out⟩
end Go.Proofs.Ytigcgpgkpkoodab
