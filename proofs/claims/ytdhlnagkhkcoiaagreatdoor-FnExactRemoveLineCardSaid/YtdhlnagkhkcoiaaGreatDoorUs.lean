/- Union, meet and difference of sets: the model. -/
import Derived.Test.YtdhlnagkhkcoiaaGreatDoorPs
import Derived.Test.YtdhlnagkhkcoiaaGreatDoorHas
import Derived.Laws.AppendOwnNone
namespace Go.Proofs.YtdhlnagkhkcoiaaGreatDoor
open Go.RowKit
set_option linter.unusedVariables false

theorem valid32 (xs : List Int) : validSet xs 32 = risesB 0 31 xs := by
  unfold validSet
  rw [show (decide ((0 : Int) ≤ 32) && decide ((32 : Int) ≤ 32)) = true from rfl, Bool.true_and]
  rfl
theorem sset (w : World) (v : Value) (xs : List Int) (hv : IntsAt w v xs) :
    Calls Tryz.prog 110 #[v] w fun e w' => e = .returned (.bool (validSet xs 32)) ∧ ∃ n, w' = w.drewN n := by
  have HS := Lib.hid (srises w v xs 0 31 hv)
  have E := Lib.hid (valid32 xs)
  rw [← E.out] at HS
  clear hv E
  go_enter Tryz.func110, Tryz.ntmps110
  go_wp2_with (go_at_call 62; refine HS.out.mono ?_; rintro e w' ⟨rfl, k, rfl⟩)
  go_ret
  exact ⟨rfl, k, rfl⟩

/-- append([]int64{}, s...): a copy of a slice of the call's own. -/
theorem sown (w : World) (B : Nat) (v : Value) (xs : List Int) (hu : Ints w B v xs) (hx : xs.length ≤ 1048576) :
    Calls Tryz.prog 18 #[v] w fun e w' => ∃ v', e = .returned v' ∧ Ints w' w.heap.size v' xs ∧ Below w.heap.size w w' := by
  obtain ⟨i0, hi, hz0, hz1, hz2⟩ := info_parts Tryz.infoInt
  have HB : Hid (Below w.heap.size w (w.alloc (.cells #[] 2))) := (Below.refl _ _).alloc (Nat.le_refl _) _
  have HO : Hid (Ints (w.alloc (.cells #[] 2)) w.heap.size (.slice (some ⟨w.heap.size, 0, none⟩) 0 0) []) := World.ownsRow_made w #[] 0 (Nat.le_refl _) (by decide) rfl
  have hat := hu.at
  obtain ⟨-, ⟨rfl, h0⟩ | ⟨g, cap, cur, rfl, -, hh, -⟩⟩ := hu
  · have hx0 : xs = [] := by cases xs with | nil => rfl | cons _ _ => simp at h0
    have HX := Lib.hid hx0
    clear hat h0 hx0 hx
    go_enter Tryz.func18, Tryz.ntmps18
    go_wp2_with (at_builtin; refine wpList_append_own_none (by rfl) _ _ 40 (by rfl) w.heap.size 2 i0 1 Tryz.underlying40 hi _ 0 _ (by rfl) HO.out (by rfl) ?_)
    go_ret
    exact ⟨_, rfl, by rw [HX.out]; exact HO.out, HB.out⟩
  · obtain ⟨n, hn⟩ : ∃ n, xs.length = n := ⟨_, rfl⟩
    have hg : g < w.heap.size := (Array.getElem?_eq_some_iff.1 hh).1
    have HC : Hid (∀ j u, (xs.map (Value.int .i64))[j]? = some u → (w.alloc (.cells #[] 2)).cell? ((⟨g, 0, none⟩ : Addr).add j) = some u) := by
      intro j u hj
      rw [List.getElem?_map] at hj
      have hj' : j < xs.length := by
        by_cases h : j < xs.length
        · exact h
        · rw [List.getElem?_eq_none (by omega)] at hj; cases hj
      rw [List.getElem?_eq_getElem hj'] at hj
      simp only [Option.map_some, Option.some.injEq] at hj
      subst hj
      have k : w.cell? ⟨g, 0 + j, none⟩ = some (.int .i64 (xs.getD j 0)) := by
        obtain ⟨_, ⟨rfl, -⟩ | ⟨g', off, cap', e, hc⟩⟩ := hat
        · simp at hj'
        · simp only [Value.slice.injEq, Option.some.injEq, Addr.mk.injEq] at e
          obtain ⟨⟨rfl, rfl, -⟩, -, -⟩ := e
          exact hc j hj'
      rw [show (⟨g, 0, none⟩ : Addr).add j = ⟨g, 0 + j, none⟩ by unfold Addr.add; split <;> simp_all]
      rw [HB.out.cell (p := ⟨g, 0 + j, none⟩) hg, k]
      simp [List.getD, List.getElem?_eq_getElem hj']
    have HX := Lib.hid hn
    clear hat hh
    rw [hn] at hx ⊢
    clear hn
    go_enter Tryz.func18, Tryz.ntmps18
    go_wp2_with (at_builtin; refine wpList_append_own _ (by rfl) _ _ 40 (by rfl) w.heap.size 2 i0 (.int .i64 0) 1 8 Tryz.underlying40 hi hz0 hz1 hz2 rfl (by decide) _ 0 _ (by rfl) HO.out ⟨g, 0, none⟩ n cap (xs.map (Value.int .i64)) (by rfl) (by rw [List.length_map, HX.out]; omega) HC.out (by intro u hu; obtain ⟨x, _, rfl⟩ := List.mem_map.1 hu; rfl) (by unfold maxLen; omega) (by omega) (Nat.le_of_lt (by simp)) ?_; intro v' w' h' hg' _; have H2 := Lib.hid h'; have G2 := Lib.hid hg'; clear h' hg')
    go_ret
    refine ⟨_, rfl, ?_, HB.out.grown G2.out (by simp) (fun k hk => ?_)⟩
    · have := H2.out
      unfold Ints
      rw [HX.out]
      simpa using this
    · simp [Value.ownBlock] at hk; omega

theorem two_valid {p q : Bool} (h : (p && q) = true) : p = true ∧ q = true := by revert h; cases p <;> cases q <;> simp
theorem bits_of {xs : List Int} (h : validSet xs 32 = true) : xs.length ≤ 32 ∧ (∀ j, j < xs.length → 0 ≤ xs.getD j 0 ∧ xs.getD j 0 ≤ 31) ∧ xs = fls 32 (fun n => decide ((n : Int) ∈ xs)) := by
  have hr := valid_rises h
  have e := set_fls hr
  refine ⟨?_, fun j hj => ?_, e⟩
  · rw [e]; exact fls_len _ _
  · have := hr j hj
    exact ⟨this.1, this.2.1⟩

set_option maxHeartbeats 1000000 in
theorem sboth (xs ys : List Int) (u v : Value) (w : World) (inn : Bool) (hu : IntsAt w u xs) (hv : IntsAt w v ys) :
    Calls Tryz.prog 82 #[u, v, .bool inn] w fun e w' => ∃ v', e = .returned v' ∧ Ints w' w.heap.size v' (cmbA (fun a b => a && (b == inn)) xs ys) ∧ Below w.heap.size w w' := by
  have H1 := Lib.hid (fun (W : World) (h : Below w.heap.size w W) => sset W u xs (hu.below h (Nat.le_refl _)))
  have H2 := Lib.hid (fun (W : World) (h : Below w.heap.size w W) => sset W v ys (hv.below h (Nat.le_refl _)))
  have EA : Hid (cmbA (fun a b => a && (b == inn)) xs ys = if (validSet xs 32 && validSet ys 32) = true then fls 32 (fun n => (decide ((n : Int) ∈ xs) && (decide ((n : Int) ∈ ys) == inn))) else []) := rfl
  have HH := Lib.hid (fun (n : Int) (W : World) (h : Below w.heap.size w W) => shas W v ys n (hv.below h (Nat.le_refl _)))
  obtain ⟨m, hm⟩ : ∃ m, xs.length = m := ⟨_, rfl⟩
  obtain ⟨a, cap, rfl, hc⟩ : ∃ a cap, u = .slice a m cap ∧ ∀ j, j < m → ∃ g off, a = some ⟨g, off, none⟩ ∧ g < w.heap.size ∧ w.cell? ⟨g, off + j, none⟩ = some (.int .i64 (xs.getD j 0)) := by
    obtain ⟨_, ⟨rfl, a, cap, rfl⟩ | ⟨g, off, cap, rfl, hc⟩⟩ := hu
    · rw [← hm]; exact ⟨a, cap, rfl, fun j hj => by simp at hj⟩
    · rw [hm]; exact ⟨_, cap, rfl, fun j hj => ⟨g, off, rfl, World.block_lt_of_cell? w _ (hc j (by omega)), hc j (by omega)⟩⟩
  have HC := Lib.hid hc
  have HM := Lib.hid hm
  have BX := Lib.hid (fun h : validSet xs 32 = true => (⟨bits_of h, valid_rises h⟩ : _ ∧ _))
  obtain ⟨p, hp⟩ : ∃ p, validSet xs 32 = p := ⟨_, rfl⟩
  obtain ⟨q, hq⟩ : ∃ q, validSet ys 32 = q := ⟨_, rfl⟩
  rw [hp, hq] at EA
  rw [hp] at BX
  simp only [hp] at H1
  simp only [hq] at H2
  clear hp hq hu hv hc hm
  have B0 := Lib.hid (Below.refl w.heap.size w)
  cases p with
  | false =>
    have E : Hid (cmbA (fun a b => a && (b == inn)) xs ys = []) := by rw [EA.out]; simp [Hid]
    go_enter Tryz.func82, Tryz.ntmps82
    go_wp2_with (go_at_call 110; refine (H1.out _ B0.out).mono ?_; rintro e w' ⟨rfl, k, rfl⟩)
    go_ret
    exact ⟨_, rfl, by rw [E.out]; exact World.ownsRow_nil _ _ _ _, below_drewN B0.out k⟩
  | true =>
    cases q with
    | false =>
      have E : Hid (cmbA (fun a b => a && (b == inn)) xs ys = []) := by rw [EA.out]; simp [Hid]
      go_enter Tryz.func82, Tryz.ntmps82
      go_wp2_with (go_at_call 110; first | (with_reducible refine (H1.out _ B0.out).mono ?_; rintro e w' ⟨rfl, k, rfl⟩; have C0 := Lib.hid (below_drewN B0.out k)) | (refine (H2.out _ C0.out).mono ?_; rintro e w' ⟨rfl, k2, rfl⟩))
      go_ret
      exact ⟨_, rfl, by rw [E.out]; exact World.ownsRow_nil _ _ _ _, below_drewN B0.out (k + k2)⟩
    | true =>
      obtain ⟨⟨x32, -, -⟩, xr⟩ := BX.out rfl
      have XR := Lib.hid xr
      rw [HM.out] at x32
      have TK : Hid (∀ j, j < m → xs.take (j + 1) = xs.take j ++ [xs.getD j 0]) := fun j hj => take_getD (by have := HM.out; omega)
      have fin : Hid (xs.filter (fun z => decide (z ∈ ys) == inn) = fls 32 (fun n => (decide ((n : Int) ∈ xs) && (decide ((n : Int) ∈ ys) == inn)))) := by
        refine sorted_ext _ _ ((rises_sorted XR.out).filter _) (fls_sorted _ _) fun z => ?_
        rw [fls_mem, List.mem_filter]
        constructor
        · rintro ⟨h1, h2⟩
          have hb := rises_mem XR.out z h1
          refine ⟨z.toNat, by omega, ?_, by omega⟩
          rw [show ((z.toNat : Nat) : Int) = z by omega, h2, decide_eq_true h1]; rfl
        · rintro ⟨n, h1, h2, rfl⟩
          rw [Bool.and_eq_true] at h2
          exact ⟨of_decide_eq_true h2.1, h2.2⟩
      clear xr BX
      go_enter Tryz.func82, Tryz.ntmps82
      go_wp2_with (go_at_call 110; first | (with_reducible refine (H1.out _ B0.out).mono ?_; rintro e w' ⟨rfl, k, rfl⟩; have C0 := Lib.hid (below_drewN B0.out k)) | (refine (H2.out _ C0.out).mono ?_; rintro e w' ⟨rfl, k2, rfl⟩; have D0 := Lib.hid (below_drewN B0.out (k + k2))))
      obtain ⟨wo, hwo⟩ : ∃ wo, (w.drewN (k + k2)).alloc (.cells #[] 2) = wo := ⟨_, rfl⟩
      have HI : Hid (Ints wo w.heap.size (.slice (some ⟨w.heap.size, 0, none⟩) 0 0) []) := by rw [← hwo]; exact World.ownsRow_made _ #[] 0 (Nat.le_refl _) (by decide) rfl
      have HB : Hid (Below w.heap.size w wo) := by rw [← hwo]; exact D0.out.alloc (Nat.le_refl _) _
      have hsz : (w.drewN (k + k2)).heap.size = w.heap.size := rfl
      try rw [hwo]
      try rw [hsz]
      clear hwo hsz
      obtain ⟨B, hB⟩ : ∃ B, w.heap.size = B := ⟨_, rfl⟩
      rw [hB] at HI HB HC HH ⊢
      have HE := Lib.hid hB
      clear hB C0 D0 H1 H2 B0
      go_loopw [7, 8] (fun v i wr => ∃ (j : Nat), j ≤ m ∧ i = .int .i64 j ∧ Hid (Ints wr B v ((xs.take j).filter (fun z => decide (z ∈ ys) == inn))) ∧ Hid (Below B w wr)) (fun _ i _ => m - (intOf i).toNat)
      case atStart => exact ⟨0, by omega, rfl, HI, HB⟩
      case round =>
        obtain ⟨j, hj, rfl, hI, hBl⟩ := hrel
        have s2 : B ≤ wr.heap.size := by have := hBl.out.size; have := HE.out; omega
        by_cases c : j < m
        · have g1 : decide (j < m) = true := by simpa using c
          obtain ⟨g, off, rfl, hg, cj⟩ := HC.out j c
          have TK2 := Lib.hid (TK.out j c)
          obtain ⟨x, hx⟩ : ∃ x, xs.getD j 0 = x := ⟨_, rfl⟩
          rw [hx] at cj TK2
          have cx : wr.cell? ⟨g, off + j, none⟩ = some (.int .i64 x) := by
            rw [hBl.out.cell (p := ⟨g, off + j, none⟩) hg, cj]
          have j0 : (0 : Int) ≤ (j : Int) := by omega
          have j1 : (j : Int) < (m : Int) := by omega
          have w3 := wrapk (n := (j : Int) + 1) (by omega)
          have HHas := Lib.hid (HH.out x wr hBl.out)
          have FA : Hid ((xs.take (j + 1)).filter (fun z => decide (z ∈ ys) == inn) = (xs.take j).filter (fun z => decide (z ∈ ys) == inn) ++ if (decide (x ∈ ys) == inn) = true then [x] else []) := by
            unfold Hid
            rw [TK2.out, List.filter_append]
            congr 1
            rw [List.filter_cons, List.filter_nil]
          have hlen : ((xs.take j).filter (fun z => decide (z ∈ ys) == inn)).length ≤ 1000 := by
            refine Nat.le_trans (List.length_filter_le _ _) ?_
            rw [List.length_take]; omega
          obtain ⟨d, hd⟩ : ∃ d, decide (x ∈ ys) = d := ⟨_, rfl⟩
          rw [hd] at HHas FA
          clear hx cj hg hd
          by_cases e : (d == inn) = true
          · rw [if_pos e] at FA
            go_wp2_with (first | (go_at_call 65; refine HHas.out.mono ?_; rintro e5 w5 ⟨rfl, rfl⟩) | (at_builtin; refine wpList_push wr (by rfl) _ _ (by rfl) B _ _ (by rfl) hI.out x _ (by rfl) (by omega) s2 ?_; intro v' w6 hn hb; have HN' := Lib.hid hn; have HB2 := Lib.hid hb; clear hn hb))
            go_roundw
            case rel => exact ⟨j + 1, by omega, by go_num, by unfold Hid; rw [FA.out]; exact HN'.out, hBl.out.trans HB2.out⟩
            case measure => simp [intOf]; omega
          · rw [if_neg e, List.append_nil] at FA
            rw [Bool.not_eq_true] at e
            go_wp2_with (go_at_call 65; refine HHas.out.mono ?_; rintro e5 w5 ⟨rfl, rfl⟩)
            go_roundw
            case rel => exact ⟨j + 1, by omega, by go_num, by unfold Hid; rw [FA.out]; exact hI.out, hBl⟩
            case measure => simp [intOf]; omega
        · have g1 : decide (j < m) = false := by simpa using c
          have ej : j = xs.length := by have := HM.out; omega
          have V : Hid (cmbA (fun a b => a && (b == inn)) xs ys = (xs.take j).filter (fun z => decide (z ∈ ys) == inn)) := by
            unfold Hid
            rw [EA.out, if_pos (show (true && true) = true from rfl), ej, List.take_length]
            exact fin.out.symm
          clear ej
          go_wp2
          go_ret
          exact ⟨_, rfl, by rw [HE.out, V.out]; exact hI.out, by rw [HE.out]; exact hBl.out⟩

theorem sMinusSets (xs ys : List Int) (u v : Value) (w : World) (B0 : Nat) (hu : Ints w B0 u xs) (hv : IntsAt w v ys) :
    Calls Tryz.prog 56 #[u, v] w fun e w' => ∃ v', e = .returned v' ∧ Ints w' w.heap.size v' (cmbA (fun a b => a && !b) xs ys) ∧ Below w.heap.size w w' := by
  have HS := Lib.hid (sboth xs ys u v w false hu.at hv)
  rw [show (fun a b : Bool => a && (b == false)) = (fun a b => a && !b) from funext fun a => funext fun b => by cases b <;> rfl] at HS
  clear hu hv
  go_enter Tryz.func56, Tryz.ntmps56
  go_wp2_with (go_at_call 82; refine HS.out.mono ?_; rintro e w2 ⟨v2, rfl, i2, b2⟩; have I2 := Lib.hid i2; have B2 := Lib.hid b2; clear i2 b2)
  go_ret
  exact ⟨_, rfl, I2.out, B2.out⟩

end Go.Proofs.YtdhlnagkhkcoiaaGreatDoor
