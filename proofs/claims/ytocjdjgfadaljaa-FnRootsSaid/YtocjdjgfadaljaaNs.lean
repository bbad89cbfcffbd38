/- The next subset, by both packages. -/
import Derived.Test.YtocjdjgfadaljaaNt
import Derived.Laws.CopyOwn
namespace Go.Proofs.Ytocjdjgfadaljaa
open Go.RowKit
set_option linter.unusedVariables false

theorem intsAt_shape {w : World} {v : Value} {xs : List Int} (hv : IntsAt w v xs) : ∃ a cap, v = .slice a xs.length cap := by
  obtain ⟨_, ⟨rfl, a, cap, rfl⟩ | ⟨g, off, cap, rfl, hc⟩⟩ := hv
  · exact ⟨a, cap, rfl⟩
  · exact ⟨_, cap, rfl⟩

set_option maxHeartbeats 1000000 in
theorem sNext (n : Int) (xs : List Int) (v : Value) (w : World) (hv : IntsAt w v xs) :
    Calls Try.prog 33 #[.int .i64 n, v] w fun e w' => ∃ v', e = .returned (.tuple #[v', .bool (nxB n xs)]) ∧ Ints w' w.heap.size v' (nxA n xs) ∧ Below w.heap.size w w' := by
  have HV := Lib.hid (svalid w v xs n hv)
  obtain ⟨a, cap, rfl⟩ := intsAt_shape hv
  by_cases h : validSet xs n = true
  · obtain ⟨n, rfl, hs⟩ := vset_of h
    have hn := hs.n32
    have hln := hs.len
    have HR := Lib.hid (fun k : Nat => srank n xs _ (w.drewN k) (hv.drewN k) hs)
    have HC := Lib.hid (fun W : World => schoose n xs.length W hn hln)
    have rl := rkT_le hs xs.length (Nat.le_refl _)
    have N := Lib.hid (fun c => nx_no (n := (n : Int)) (xs := xs) (fun ok => absurd ok.2 c))
    have Y := Lib.hid (fun c => nx_yes (n := (n : Int)) (xs := xs) ⟨h, c⟩)
    have HS := Lib.hid (fun (k : Nat) c => ssubset n xs.length (rkT n xs xs.length + 1) (w.drewN k) hn hln c)
    simp only [Int.toNat_natCast] at N Y
    obtain ⟨ys, hys⟩ : ∃ ys, (urS n xs.length (rkT n xs xs.length + 1) n).1 = ys := ⟨_, rfl⟩
    obtain ⟨m, hm⟩ : ∃ m, xs.length = m := ⟨_, rfl⟩
    rw [hys] at Y HS
    rw [h] at HV
    rw [hm] at HR HC HV hln rl N Y HS ⊢
    obtain ⟨z, hz⟩ : ∃ z, ch n m = z := ⟨_, rfl⟩
    obtain ⟨r, hr⟩ : ∃ r, rkT n xs m = r := ⟨_, rfl⟩
    obtain ⟨q, hq⟩ : ∃ q, r + 1 = q := ⟨_, rfl⟩
    rw [hz] at HC N Y HS
    rw [hr] at HR rl N Y HS
    rw [hq] at N Y HS
    have eq1 : (r : Int) + 1 = (q : Int) := by omega
    have w1 := wrapk (n := (q : Int)) (by omega)
    clear h hv hm hz hr hs hys
    by_cases c : q < z
    · have E := Lib.hid (Y.out c)
      have HS' := Lib.hid (fun k : Nat => HS.out k c)
      have g1 : decide (z ≤ q) = false := by simpa using c
      have g1' : decide ((z : Int) ≤ (q : Int)) = false := by simp; omega
      clear c hq N Y HS
      go_enter Try.func33, Try.ntmps33
      go_wp2_with (first | (go_at_call 49; refine HV.out.mono ?_; rintro e w' ⟨rfl, k, rfl⟩) | (go_at_call 50; refine (HR.out _).mono ?_; rintro e w' ⟨rfl, rfl⟩) | (go_at_call 54; refine (HC.out _).mono ?_; rintro e w' ⟨rfl, rfl⟩) | (go_at_call 55; refine (HS'.out _).mono ?_; rintro e w' ⟨v', rfl, i2, b2⟩; have I2 := Lib.hid i2; have B2 := Lib.hid b2; clear i2 b2))
      go_ret2
      exact ⟨_, by rw [E.out.2]; rfl, by rw [E.out.1]; exact I2.out, (below_drewN (Below.refl _ _) k).trans B2.out⟩
    · have E := Lib.hid (N.out c)
      have g1 : decide (z ≤ q) = true := by simp; omega
      have g1' : decide ((z : Int) ≤ (q : Int)) = true := by simp; omega
      clear c hq N Y HS
      go_enter Try.func33, Try.ntmps33
      go_wp2_with (first | (go_at_call 49; refine HV.out.mono ?_; rintro e w' ⟨rfl, k, rfl⟩) | (go_at_call 50; refine (HR.out _).mono ?_; rintro e w' ⟨rfl, rfl⟩) | (go_at_call 54; refine (HC.out _).mono ?_; rintro e w' ⟨rfl, rfl⟩))
      go_ret2
      exact ⟨_, by rw [E.out.2]; rfl, by rw [E.out.1]; exact World.ownsRow_nil _ _ _ _, below_drewN (Below.refl _ _) _⟩
  · have E := Lib.hid (nx_no (n := n) (xs := xs) (fun ok => h ok.1))
    rw [Bool.not_eq_true] at h
    rw [h] at HV
    clear h hv
    go_enter Try.func33, Try.ntmps33
    go_wp2_with (go_at_call 49; refine HV.out.mono ?_; rintro e w' ⟨rfl, k, rfl⟩)
    go_ret2
    exact ⟨_, by rw [E.out.2]; rfl, by rw [E.out.1]; exact World.ownsRow_nil _ _ _ _, below_drewN (Below.refl _ _) _⟩

/-- The row of the next subset, as far as place j. -/
def sucP (xs : List Int) (i j : Nat) : List Int := xs.take i ++ (List.range (j - i)).map (fun t => ((el xs i + 1 + t : Nat) : Int)) ++ List.replicate (xs.length - j) 0
theorem sucP_set {xs : List Int} {i j : Nat} (hi : i ≤ j) (hj : j < xs.length) : (sucP xs i j).set j ((el xs i + 1 + (j - i) : Nat) : Int) = sucP xs i (j + 1) := by
  have e : (xs.take i ++ (List.range (j - i)).map (fun t => ((el xs i + 1 + t : Nat) : Int))).length = j := by
    rw [List.length_append, List.length_take, List.length_map, List.length_range]; omega
  unfold sucP
  rw [List.set_append_right _ _ (by omega), e, Nat.sub_self, show xs.length - j = (xs.length - (j + 1)) + 1 by omega, List.replicate_succ, List.set_cons_zero, show j + 1 - i = (j - i) + 1 by omega, List.range_succ]
  simp
theorem sucP_end {xs : List Int} {i : Nat} : sucP xs i xs.length = sucL xs i := by
  unfold sucP sucL; simp

set_option maxHeartbeats 2000000 in
theorem iNext (n : Int) (xs : List Int) (v : Value) (w : World) (hv : IntsAt w v xs) (hcap : ∀ a l c, v = .slice a l c → l ≤ c) :
    Calls Try.prog 34 #[.int .i64 n, v] w fun e w' => ∃ v', e = .returned (.tuple #[v', .bool (nxB n xs)]) ∧ Ints w' w.heap.size v' (nxA n xs) ∧ Below w.heap.size w w' := by
  have HV := Lib.hid (ivalid w v xs n hv)
  by_cases h : validSet xs n = true
  · obtain ⟨n, rfl, hs⟩ := vset_of h
    have hn := hs.n32
    have hln := hs.len
    have N : Hid ((∀ j, 0 ≤ j → j < xs.length → el xs j + (xs.length - j) = n) → nxA (n : Int) xs = [] ∧ nxB (n : Int) xs = false) := fun c => nx_no (fun ok => by
      have := ok.2
      simp only [Int.toNat_natCast] at this
      have := rank_last hs c
      omega)
    have Y : Hid (∀ i, i < xs.length → el xs i + (xs.length - i) < n → (∀ j, i + 1 ≤ j → j < xs.length → el xs j + (xs.length - j) = n) → nxA (n : Int) xs = sucL xs i ∧ nxB (n : Int) xs = true) := fun i hi hlt c => by
      have a := rank_suc hs hi hlt c
      have b := nx_yes (n := (n : Int)) (xs := xs) ⟨h, by simp only [Int.toNat_natCast]; exact a.1⟩
      simp only [Int.toNat_natCast] at b
      rw [b.1, b.2]
      exact ⟨a.2, rfl⟩
    obtain ⟨m, hm⟩ : ∃ m, xs.length = m := ⟨_, rfl⟩
    obtain ⟨a, cap, rfl, hc⟩ : ∃ a cap, v = .slice a m cap ∧ ∀ j, j < m → ∃ g off, a = some ⟨g, off, none⟩ ∧ w.cell? ⟨g, off + j, none⟩ = some (.int .i64 (el xs j : Nat)) := by
      obtain ⟨_, ⟨rfl, a, cap, rfl⟩ | ⟨g, off, cap, rfl, hc⟩⟩ := hv
      · rw [← hm]; exact ⟨a, cap, rfl, fun j hj => by simp at hj⟩
      · rw [hm]; exact ⟨_, cap, rfl, fun j hj => ⟨g, off, rfl, by rw [← hs.el j (by omega)]; exact hc j (by omega)⟩⟩
    have hmc := hcap _ _ _ rfl
    have HC := Lib.hid hc
    have TP : Hid (∀ i, i < m → el xs i + (m - i) ≤ n) := fun i hi => by have := hs.top i (by omega); omega
    have EL : Hid (∀ i, i < m → xs.getD i 0 = (el xs i : Nat)) := fun i hi => hs.el i (by omega)
    have HM := Lib.hid hm
    rw [hm] at hln N Y
    rw [h] at HV
    have hmk := fun W : World => run_make_row' (P := Try.prog) 29 2 (.int .i64 0) 8 Try.underlying29 Try.infoInt rfl .i64 .i64 m (by omega) (by omega) W
    have w0 := wrapk (n := (m : Int) - 1) (by omega)
    clear hv h hm hc hs hcap
    go_enter Try.func34, Try.ntmps34
    go_wp2_with (go_at_call 51; refine HV.out.mono ?_; rintro e w' ⟨rfl, rfl⟩)
    go_loop [7] (fun i => ∃ j : Nat, j ≤ m ∧ i = .int .i64 ((j : Int) - 1) ∧ Hid (∀ t, j ≤ t → t < m → el xs t + (m - t) = n)) (fun i => (intOf i + 1).toNat)
    case atStart => exact ⟨m, Nat.le_refl _, rfl, fun t h1 h2 => by omega⟩
    case round =>
      obtain ⟨j, hj, rfl, hA⟩ := hrel
      cases j with
      | zero =>
        have E := Lib.hid (N.out hA.out)
        go_wp2
        go_ret2
        exact ⟨_, by rw [E.out.2]; rfl, by rw [E.out.1]; exact World.ownsRow_nil _ _ _ _, Below.refl _ _⟩
      | succ i =>
        have ei : ((i + 1 : Nat) : Int) - 1 = (i : Int) := by omega
        rw [ei]
        have i0 : (0 : Int) ≤ (i : Int) := by omega
        have i1 : (i : Int) < (m : Int) := by omega
        have g0 : decide ((0 : Int) ≤ (i : Int)) = true := by simp
        obtain ⟨g, off, rfl, ci⟩ := HC.out i (by omega)
        have tp := TP.out i (by omega)
        obtain ⟨x, hx⟩ : ∃ x, el xs i = x := ⟨_, rfl⟩
        rw [hx] at ci tp
        obtain ⟨d, hd⟩ : ∃ d : Nat, m - i = d := ⟨_, rfl⟩
        have ed : (m : Int) - (i : Int) = (d : Int) := by omega
        obtain ⟨t, ht⟩ : ∃ t : Nat, n - d = t := ⟨_, rfl⟩
        have et : (n : Int) - (d : Int) = (t : Int) := by omega
        have w1 := wrapk (n := (d : Int)) (by omega)
        have w2 := wrapk (n := (t : Int)) (by omega)
        have w3 := wrapk (n := (i : Int) - 1) (by omega)
        by_cases c : x = t
        · have g1 : (x == t) = true := by simpa using c
          have g1' : ((x : Int) == (t : Int)) = true := by simp; omega
          have AA : Hid (∀ t, i ≤ t → t < m → el xs t + (m - t) = n) := fun u h1 h2 => by
            by_cases e : u = i
            · rw [e, hx]; omega
            · exact hA.out u (by omega) h2
          clear c hx hd ht tp
          go_wp2
          go_round
          case rel => exact ⟨i, by omega, rfl, AA⟩
          case measure => simp [intOf]
        · have g1 : (x == t) = false := by simpa using c
          have g1' : ((x : Int) == (t : Int)) = false := by simp; omega
          have E := Lib.hid (Y.out i (by omega) (by omega) hA.out)
          have HX := Lib.hid hx
          have cw : ∀ j, j < i → w.cell? ⟨g, off + j, none⟩ = some (.int .i64 (xs.getD j 0)) := fun j hj => by
            obtain ⟨g', off', e, k⟩ := HC.out j (by omega)
            simp only [Option.some.injEq, Addr.mk.injEq] at e
            obtain ⟨rfl, rfl, -⟩ := e
            rw [EL.out j (by omega)]; exact k
          have CW := Lib.hid cw
          have glt := World.block_lt_of_cell? w _ ci
          have hi' : i < m := by omega
          clear c hd ht cw hA hx
          have i3 : (i : Int) ≤ (cap : Int) := by omega
          obtain ⟨cs, hcs⟩ : ∃ cs, (xs.take i).map (Value.int .i64) = cs := ⟨_, rfl⟩
          obtain ⟨cur, hcur⟩ : ∃ cur, (List.replicate m (0 : Int)).map (Value.int .i64) = cur := ⟨_, rfl⟩
          have lc : cs.length = i := by rw [← hcs, List.length_map, List.length_take, HM.out]; omega
          have lcur : cur.length = m := by rw [← hcur, List.length_map, List.length_replicate]
          have HG : Hid ((w.alloc (.cells (madeCells #[.int .i64 0] m) 2)).heap[w.heap.size]? = some (.cells cur.toArray 2 (0, 0))) := by
            have e : madeCells #[.int .i64 0] m = cur.toArray := by
              apply Array.toList_inj.1
              rw [toList_madeCells_one, ← hcur, List.map_replicate]
            rw [e]
            show (w.heap.push _)[w.heap.size]? = _
            rw [Array.getElem?_push_size]
          have HB0 : Hid (Below w.heap.size w (w.alloc (.cells (madeCells #[.int .i64 0] m) 2))) := (Below.refl _ _).alloc (Nat.le_refl _) _
          have HSRC : Hid (∀ W : World, Below w.heap.size w W → ∀ j u, cs[j]? = some u → W.cell? ((⟨g, off, none⟩ : Addr).add j) = some u) := fun W hb j u hj => by
            have hji : j < i := by
              have := (List.getElem?_eq_some_iff.1 hj).1
              omega
            rw [show (⟨g, off, none⟩ : Addr).add j = ⟨g, off + j, none⟩ by unfold Addr.add; split <;> simp_all, hb.cell (p := ⟨g, off + j, none⟩) glt, CW.out j hji, ← hj, ← hcs, List.getElem?_map, List.getElem?_take_of_lt hji, List.getElem?_eq_getElem (by have := HM.out; omega)]
            simp [List.getD, List.getElem?_eq_getElem (show j < xs.length by have := HM.out; omega)]
          have HONE : Hid (∀ u ∈ cs, u.oneCell' = true) := fun u hu => by
            rw [← hcs] at hu
            obtain ⟨y, -, rfl⟩ := List.mem_map.1 hu
            rfl
          have HMIN : Hid (cs.length = Nat.min i m) := by unfold Hid; rw [lc]; exact (Nat.min_eq_left (by omega)).symm
          have HFIT : Hid (0 + cs.length ≤ cur.length) := by unfold Hid; omega
          have HSP : Hid ((splice cur 0 cs) = (sucP xs i i).map (Value.int .i64)) := by
            unfold Hid splice sucP
            rw [lc, ← hcs, ← hcur, HM.out]
            simp
          have LCUR := Lib.hid lcur
          have LSP : Hid ((splice cur 0 cs).length = m) := by unfold Hid; rw [length_splice _ _ _ HFIT.out, lcur]
          clear hcs hcur lc lcur
          go_wp2_with (refine wpList_copy_splice rfl (.tmp 36) (.tmp 39) 29 29 rfl 2 Try.underlying29 (by kernel_rfl) _ _ _ _ _ _ (by rfl) (by rfl) w.heap.size 0 _ 2 HG.out cs HMIN.out (fun _ => ⟨rfl, _, rfl, HSRC.out _ HB0.out⟩) HFIT.out HONE.out w.heap.size w HB0.out (Nat.le_refl _) ?_; intro wc hg2 hb2)
          have O2 : Hid (wc.ownsRow w.heap.size 2 1 (.slice (some ⟨w.heap.size, 0, none⟩) m m) m ((sucP xs i i).map (Value.int .i64))) := by
            refine ⟨by rw [← HSP.out, LSP.out, Nat.mul_one], .inr ⟨w.heap.size, m, _, rfl, Nat.le_refl _, hg2.out, Nat.le_refl _, by unfold maxLen; omega, by rw [List.size_toArray, LSP.out, Nat.mul_one], ?_⟩⟩
            rw [List.toList_toArray, HSP.out, Nat.mul_one, List.take_of_length_le (by rw [← HSP.out, LSP.out]; exact Nat.le_refl _)]
          have B2 := Lib.hid hb2
          clear hg2 hb2 hmk
          go_loopw [10] (fun jv wr => ∃ j : Nat, i ≤ j ∧ j ≤ m ∧ jv = .int .i64 j ∧ Hid (wr.ownsRow w.heap.size 2 1 (.slice (some ⟨w.heap.size, 0, none⟩) m m) m ((sucP xs i j).map (Value.int .i64))) ∧ Hid (Below w.heap.size w wr)) (fun jv _ => m - (intOf jv).toNat)
          case atStart => exact ⟨i, Nat.le_refl _, by omega, rfl, O2, B2⟩
          case round =>
            obtain ⟨j, hij, hj, rfl, ho, hb⟩ := hrel
            by_cases hlt : j < m
            · have j0 : (0 : Int) ≤ (j : Int) := by omega
              have j1 : (j : Int) < (m : Int) := by omega
              obtain ⟨y, hy⟩ : ∃ y : Nat, j - i = y := ⟨_, rfl⟩
              have ey : (j : Int) - (i : Int) = (y : Int) := by omega
              have w4 := wrapk (n := (x : Int) + 1) (by omega)
              have w5 := wrapk (n := (y : Int)) (by omega)
              have w6 := wrapk (n := (x : Int) + 1 + (y : Int)) (by omega)
              have hc : wr.cell? ⟨g, off + i, none⟩ = some (.int .i64 (x : Int)) := (hb.out.cell (p := ⟨g, off + i, none⟩) glt).trans ci
              obtain ⟨old, hold⟩ : ∃ old, wr.cell? ⟨w.heap.size, j, none⟩ = some old := by
                rw [ho.out.cellAt j (by omega), List.getElem?_eq_getElem (by have := ho.out.1; omega)]; exact ⟨_, rfl⟩
              have hf : wr.frozen? ⟨w.heap.size, j, none⟩ = false := ho.out.frozenAt j
              have S1 : Hid ((wr.setCell ⟨w.heap.size, j, none⟩ (.int .i64 ((x : Int) + 1 + (y : Int)))).ownsRow w.heap.size 2 1 (.slice (some ⟨w.heap.size, 0, none⟩) m m) m ((sucP xs i (j + 1)).map (Value.int .i64))) := by
                have := (ho.out.stored j (.int .i64 ((x : Int) + 1 + (y : Int)))).1
                rw [← List.map_set, show (x : Int) + 1 + (y : Int) = ((el xs i + 1 + (j - i) : Nat) : Int) by rw [HX.out, hy]; simp, sucP_set hij (by rw [HM.out]; exact hlt)] at this
                rw [show (x : Int) + 1 + (y : Int) = ((el xs i + 1 + (j - i) : Nat) : Int) by rw [HX.out, hy]; simp]
                exact this
              have S2 : Hid (Below w.heap.size w (wr.setCell ⟨w.heap.size, j, none⟩ (.int .i64 ((x : Int) + 1 + (y : Int))))) := hb.out.setCell (Nat.le_refl _) _
              clear hy
              go_wp2
              go_roundw
              case rel => exact ⟨j + 1, by omega, by omega, by go_num, S1, S2⟩
              case measure => simp [intOf]; omega
            · obtain rfl : j = m := by omega
              have V : Hid (Ints wr w.heap.size (.slice (some ⟨w.heap.size, 0, none⟩) j j) (sucL xs i)) := by
                have := ho.out
                rw [← HM.out, sucP_end] at this
                unfold Hid Ints
                rw [sucL_len (by rw [HM.out]; omega), ← HM.out]
                exact this
              go_wp2
              go_ret2
              exact ⟨_, by rw [E.out.2]; rfl, by rw [E.out.1]; exact V.out, hb.out⟩
  · have E := Lib.hid (nx_no (n := n) (xs := xs) (fun ok => h ok.1))
    obtain ⟨a, cap, rfl⟩ := intsAt_shape hv
    rw [Bool.not_eq_true] at h
    rw [h] at HV
    clear h hv hcap
    go_enter Try.func34, Try.ntmps34
    go_wp2_with (go_at_call 51; refine HV.out.mono ?_; rintro e w' ⟨rfl, rfl⟩)
    go_ret2
    exact ⟨_, by rw [E.out.2]; rfl, by rw [E.out.1]; exact World.ownsRow_nil _ _ _ _, Below.refl _ _⟩
end Go.Proofs.Ytocjdjgfadaljaa
