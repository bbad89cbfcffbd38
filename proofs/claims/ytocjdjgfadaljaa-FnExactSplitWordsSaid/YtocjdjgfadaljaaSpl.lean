/- SplitWords, by both packages, and its law. -/
import Derived.Test.YtocjdjgfadaljaaSpm
import Derived.Test.YtocjdjgfadaljaaStr
import Derived.Test.YtocjdjgfadaljaaShelf
namespace Go.Proofs.Ytocjdjgfadaljaa
open Go.RowKit
set_option linter.unusedVariables false

theorem run_enter {P : Program} {f : FuncId} {fn : Func} (hf : P.funcs[f]? = some fn) (hname : (fn.name == "runtime.NumGoroutine") = false) (hb : fn.body.isSome = true) (args : Array Value) (w : World) :
    (callFunc f args).run P w = .ok (.enter f args) w := by
  have h1 : fn.name ≠ "runtime.NumGoroutine" := by simpa using hname
  obtain ⟨c, hc⟩ := Option.isSome_iff_exists.1 hb
  simp [callFunc, hf, h1, hc]

theorem blank_pred (x : Nat) (w : World) : Calls Try.prog 47 #[.int .i32 (x : Int)] w fun e w' => e = .returned (.bool (decide (x = 32))) ∧ w = w' := by
  have h : ((x : Int) == 32) = decide (x = 32) := by
    by_cases c : x = 32
    · subst c; rfl
    · rw [decide_eq_false c]; simp; omega
  have h' : (x == 32) = decide (x = 32) := by
    by_cases c : x = 32
    · subst c; rfl
    · rw [decide_eq_false c]; simpa using c
  obtain ⟨b, hb⟩ : ∃ b, decide (x = 32) = b := ⟨_, rfl⟩
  rw [hb] at h h' ⊢
  clear hb
  go_enter Try.func47, Try.ntmps47
  go_wp2
  go_ret
  exact ⟨by simp, rfl⟩

theorem isplit (s : ByteArray) (w : World) (hs : s.size ≤ 1048576) :
    Calls Try.prog 21 #[.string s] w fun e w' => ∃ v, e = .returned v ∧ Strs w' w.heap.size v (wordsOf s) ∧ Below w.heap.size w w' := by
  have HF := Lib.hid (Go.Proofs.Try.strings_FieldsFunc_grows 47 #[] (fun args W => run_enter Try.func47 (by kernel_rfl) (by kernel_rfl) args W) (fun r => decide (r = 32)) s w (by omega) (fun W x _ _ => (blank_pred x W).mono fun e w' ⟨h1, h2⟩ => ⟨h1, by subst h2; exact Below.refl _ _⟩))
  rw [words_go s (fun r => decide (r = 32)) (fun _ => rfl)] at HF
  go_enter Try.func21, Try.ntmps21
  go_wp2_with fail
  refine HF.out.mono ?_
  rintro e w1 ⟨A, rfl, hA, i1, b1⟩
  have I1 := Lib.hid i1
  have B1 := Lib.hid b1
  clear i1 b1
  go_wp2
  go_ret
  exact ⟨_, rfl, I1.out, B1.out⟩

set_option maxHeartbeats 2000000 in
theorem sparts (s : ByteArray) (w : World) (hs : s.size ≤ 1048576) :
    Calls Try.prog 45 #[.string s, .int .u8 32] w fun e w' => ∃ v, e = .returned v ∧ Strs w' w.heap.size v (partsOf s) ∧ Below w.heap.size w w' := by
  obtain ⟨m, hm⟩ : ∃ m, s.size = m := ⟨_, rfl⟩
  have PF := Lib.hid (fun i => psc_fsc s i)
  have PE : Hid (partsOf s = ((psc s m).1 ++ [((psc s m).2, m)]).map fun x => s.extract x.1 x.2) := by unfold Hid partsOf; rw [hm]
  have PS : Hid (∀ i, i < m → psc s (i + 1) = if bt s i = 32 then ((psc s i).1 ++ [((psc s i).2, i)], i + 1) else psc s i) := fun i _ => rfl
  have HM := Lib.hid hm
  go_enter Try.func45, Try.ntmps45
  go_wp2
  obtain ⟨wo, hwo⟩ : ∃ wo, w.alloc (.cells #[] 9) = wo := ⟨_, rfl⟩
  have HI : Hid (Strs wo w.heap.size (.slice (some ⟨w.heap.size, 0, none⟩) 0 0) []) := by rw [← hwo]; exact World.ownsRow_made w #[] 0 (Nat.le_refl _) (by decide) rfl
  have HB : Hid (Below w.heap.size w wo) := by rw [← hwo]; exact (Below.refl _ _).alloc (Nat.le_refl _) _
  rw [hwo]
  clear hwo
  obtain ⟨B, hB⟩ : ∃ B, w.heap.size = B := ⟨_, rfl⟩
  rw [hB] at HI HB ⊢
  have HE := Lib.hid hB
  clear hB hm
  go_loopw [5, 6, 7] (fun v f i wr => ∃ (j q : Nat), j ≤ s.size ∧ q ≤ j ∧ i = .int .i64 j ∧ f = .int .i64 q ∧ Hid ((psc s j).2 = q) ∧ Hid (Strs wr B v ((psc s j).1.map fun x => s.extract x.1 x.2)) ∧ Hid (Below B w wr)) (fun _ _ i _ => s.size - (intOf i).toNat)
  case atStart => exact ⟨0, 0, by omega, by omega, rfl, rfl, rfl, HI, HB⟩
  case round =>
    obtain ⟨j, q, hj, hqj, rfl, rfl, hQ, hI, hBl⟩ := hrel
    have s2 : B ≤ wr.heap.size := by have := hBl.out.size; have := HE.out; omega
    have hlen : ((psc s j).1.map fun x => s.extract x.1 x.2).length < 1000000000000 := by
      rw [List.length_map]
      have := (PF.out j).2.2.2.1
      omega
    by_cases c : j < s.size
    · have w3 := IntWalk.i64_in ((j : Int) + 1) (by omega)
      have j0 : (0 : Int) ≤ (j : Int) := by omega
      have q0 : (0 : Int) ≤ (q : Int) := by omega
      have qj : (q : Int) ≤ (j : Int) := by omega
      have js : (j : Int) ≤ (s.size : Int) := by omega
      have P := PS.out j (by have := HM.out; omega)
      rw [bt_get s j c] at P
      by_cases e : s[j].toNat = 32
      · have g2 : (s[j].toNat == 32) = true := by simpa using e
        have g2' : ((s[j].toNat : Int) == 32) = true := by simp; omega
        rw [if_pos e, hQ.out] at P
        have P1 : Hid (((psc s j).1.map fun x => s.extract x.1 x.2) ++ [s.extract q j] = (psc s (j + 1)).1.map fun x => s.extract x.1 x.2) := by unfold Hid; rw [P]; simp
        have P2 : Hid ((psc s (j + 1)).2 = j + 1) := by unfold Hid; rw [P]
        clear P e
        go_wp2_with (at_builtin; refine wpList_pushS _ (by rfl) _ _ (by rfl) B _ _ (by rfl) hI.out (s.extract q j) _ (by rfl) hlen s2 ?_; intro v' w4 hn hb; have HN' := Lib.hid hn; have HB2 := Lib.hid hb; clear hn hb)
        go_roundw
        case rel => exact ⟨j + 1, j + 1, by omega, by omega, by go_num, by go_num, P2, by unfold Hid; rw [← P1.out]; exact HN'.out, hBl.out.trans HB2.out⟩
        case measure => simp [intOf]; omega
      · have g2 : (s[j].toNat == 32) = false := by simpa using e
        have g2' : ((s[j].toNat : Int) == 32) = false := by simp; omega
        rw [if_neg e] at P
        have P1 : Hid (psc s (j + 1) = psc s j) := P
        clear P e
        go_wp2
        go_roundw
        case rel => exact ⟨j + 1, q, by omega, by omega, by go_num, rfl, by unfold Hid; rw [P1.out]; exact hQ.out, by unfold Hid; rw [P1.out]; exact hI.out, hBl⟩
        case measure => simp [intOf]; omega
    · have ej : j = s.size := by omega
      have q0 : (0 : Int) ≤ (q : Int) := by omega
      have qs : (q : Int) ≤ (s.size : Int) := by omega
      have V : Hid (((psc s j).1.map fun x => s.extract x.1 x.2) ++ [s.extract q s.size] = partsOf s) := by
        unfold Hid
        rw [PE.out, ← HM.out, ← ej, hQ.out]
        simp
      clear ej
      go_wp2_with (at_builtin; refine wpList_pushS _ (by rfl) _ _ (by rfl) B _ _ (by rfl) hI.out (s.extract q s.size) _ (by rfl) hlen s2 ?_; intro v' w4 hn hb; have HN' := Lib.hid hn; have HB2 := Lib.hid hb; clear hn hb)
      go_ret
      exact ⟨_, rfl, by rw [HE.out, ← V.out]; exact HN'.out, by rw [HE.out]; exact hBl.out.trans HB2.out⟩

theorem take_getS {ss : List ByteArray} {j : Nat} (h : j < ss.length) : ss.take (j + 1) = ss.take j ++ [ss.getD j ByteArray.empty] := by
  rw [List.take_succ_eq_append_getElem h]
  simp [List.getD, List.getElem?_eq_getElem h]

set_option maxHeartbeats 2000000 in
theorem ssplit (s : ByteArray) (w : World) (hs : s.size ≤ 1048576) :
    Calls Try.prog 20 #[.string s] w fun e w' => ∃ v, e = .returned v ∧ Strs w' w.heap.size v (wordsOf s) ∧ Below w.heap.size w w' := by
  have HP := Lib.hid (sparts s w hs)
  have WP := Lib.hid (words_parts s)
  have pl := parts_len s
  obtain ⟨ps, hps⟩ : ∃ ps, partsOf s = ps := ⟨_, rfl⟩
  rw [hps] at HP WP pl
  obtain ⟨ws, hws⟩ : ∃ ws, wordsOf s = ws := ⟨_, rfl⟩
  rw [hws] at WP ⊢
  clear hps hws
  go_enter Try.func20, Try.ntmps20
  go_wp2_with fail
  refine HP.out.mono ?_
  rintro e w1 ⟨v, rfl, i1, b1⟩
  obtain ⟨a, cap, rfl, hc⟩ := i1.at.shape
  have HC := Lib.hid (show ∀ j, j < ps.length → ∃ g off, a = some ⟨g, off, none⟩ ∧ g < w1.heap.size ∧ w1.cell? ⟨g, off + j, none⟩ = some (.string (ps.getD j ByteArray.empty)) from fun j hj => by
    obtain ⟨g, off, h1, h2⟩ := hc j hj
    exact ⟨g, off, h1, World.block_lt_of_cell? w1 _ h2, h2⟩)
  have T1 := Lib.hid b1
  have TK : Hid (∀ j, j < ps.length → ps.take (j + 1) = ps.take j ++ [ps.getD j ByteArray.empty]) := fun j hj => take_getS hj
  have TL : Hid (ps.take ps.length = ps) := List.take_length
  obtain ⟨m, hm⟩ : ∃ m, ps.length = m := ⟨_, rfl⟩
  rw [hm] at HC pl TK TL ⊢
  clear i1 b1 hc hm HP
  go_wp2
  obtain ⟨wo, hwo⟩ : ∃ wo, w1.alloc (.cells #[] 9) = wo := ⟨_, rfl⟩
  have HI : Hid (Strs wo w1.heap.size (.slice (some ⟨w1.heap.size, 0, none⟩) 0 0) []) := by rw [← hwo]; exact World.ownsRow_made w1 #[] 0 (Nat.le_refl _) (by decide) rfl
  have HB : Hid (Below w1.heap.size w1 wo) := by rw [← hwo]; exact (Below.refl _ _).alloc (Nat.le_refl _) _
  rw [hwo]
  clear hwo
  obtain ⟨B, hB⟩ : ∃ B, w1.heap.size = B := ⟨_, rfl⟩
  rw [hB] at HI HB HC ⊢
  have HE := Lib.hid hB
  clear hB
  go_loopw [4, 5] (fun v i wr => ∃ (j : Nat), j ≤ m ∧ i = .int .i64 j ∧ Hid (Strs wr B v ((ps.take j).filter (fun x => !(x.toList == ByteArray.empty.toList)))) ∧ Hid (Below B w1 wr)) (fun _ i _ => m - (intOf i).toNat)
  case atStart => exact ⟨0, by omega, rfl, HI, HB⟩
  case round =>
    obtain ⟨j, hj, rfl, hI, hBl⟩ := hrel
    have s2 : B ≤ wr.heap.size := by have := hBl.out.size; have := HE.out; omega
    by_cases c : j < m
    · have g1 : decide (j < m) = true := by simpa using c
      obtain ⟨g, off, rfl, hg, cj⟩ := HC.out j c
      have TK2 := Lib.hid (TK.out j c)
      obtain ⟨x, hx⟩ : ∃ x, ps.getD j ByteArray.empty = x := ⟨_, rfl⟩
      rw [hx] at cj TK2
      have cx : wr.cell? ⟨g, off + j, none⟩ = some (.string x) := by
        rw [hBl.out.cell (p := ⟨g, off + j, none⟩) hg, cj]
      have j0 : (0 : Int) ≤ (j : Int) := by omega
      have j1 : (j : Int) < (m : Int) := by omega
      have w3 := IntWalk.i64_in ((j : Int) + 1) (by omega)
      obtain ⟨b, hb⟩ : ∃ b, (x.toList == (⟨#[]⟩ : ByteArray).toList) = b := ⟨_, rfl⟩
      have hb' : (x.toList == ByteArray.empty.toList) = b := hb
      have hE : x.toList.isEmpty = b := by
        rw [← hb', show ByteArray.empty.toList = [] from ByteArray.toList_empty]
        cases x.toList <;> rfl
      have FA : Hid ((ps.take (j + 1)).filter (fun x => !(x.toList == ByteArray.empty.toList)) = (ps.take j).filter (fun x => !(x.toList == ByteArray.empty.toList)) ++ if (!b) = true then [x] else []) := by
        unfold Hid
        rw [TK2.out, List.filter_append]
        congr 1
        rw [List.filter_cons, List.filter_nil, hb']
      have hlen : ((ps.take j).filter (fun x => !(x.toList == ByteArray.empty.toList))).length ≤ 1048577 := by
        refine Nat.le_trans (List.length_filter_le _ _) ?_
        rw [List.length_take]; omega
      clear hx cj hg hb' hb
      cases b
      · rw [if_pos (show (!false) = true from rfl)] at FA
        go_wp2_with (at_builtin; refine wpList_pushS wr (by rfl) _ _ (by rfl) B _ _ (by rfl) hI.out x _ (by rfl) (by omega) s2 ?_; intro v' w6 hn hb; have HN' := Lib.hid hn; have HB2 := Lib.hid hb; clear hn hb)
        go_roundw
        case rel => exact ⟨j + 1, by omega, by go_num, by unfold Hid; rw [FA.out]; exact HN'.out, hBl.out.trans HB2.out⟩
        case measure => simp [intOf]; omega
      · rw [if_neg (show ¬ (!true) = true by simp), List.append_nil] at FA
        go_wp2
        go_roundw
        case rel => exact ⟨j + 1, by omega, by go_num, by unfold Hid; rw [FA.out]; exact hI.out, hBl⟩
        case measure => simp [intOf]; omega
    · have g1 : decide (j < m) = false := by simpa using c
      obtain rfl : j = m := by omega
      have V : Hid ((ps.take j).filter (fun x => !(x.toList == ByteArray.empty.toList)) = ws) := by unfold Hid; rw [TL.out, WP.out]
      go_wp2
      go_ret
      have s1 := T1.out.size
      exact ⟨_, rfl, by have := hI.out; rw [V.out] at this; exact this.mono (by rw [← HE.out]; exact s1), T1.out.trans (hBl.out.mono (by rw [← HE.out]; exact s1))⟩

theorem t_stepS {w w1 w2 : World} (T : Below w.heap.size w w1) (b : Below w1.heap.size w1 w2) : Below w.heap.size w w2 := T.trans (b.mono T.size)

set_option maxHeartbeats 2000000 in
theorem law_FnExactSplitWords (s : ByteArray) (w : World) (_ : s.size ≤ maxLen) :
    Calls Try.prog 5 #[.string s] w fun r w' => r = .returned (.bool true) ∧ Below w.heap.size w w' := by
  by_cases hbig : 1048576 < s.size
  · have hb : (1048576 : Int) < (s.size : Int) := by omega
    go_enter Try.func5, Try.ntmps5
    go_wp2
    go_ret
    exact ⟨rfl, Below.refl _ _⟩
  have hb : decide ((1048576 : Int) < (s.size : Int)) = false := by simp; omega
  have hs : s.size ≤ 1048576 := by omega
  have HS := Lib.hid (fun W => ssplit s W hs)
  have HI := Lib.hid (fun W => isplit s W hs)
  have wl := words_len s
  obtain ⟨ws, hws⟩ : ∃ ws, wordsOf s = ws := ⟨_, rfl⟩
  simp only [hws] at HS HI wl
  clear hws hbig
  go_enter Try.func5, Try.ntmps5
  go_wp2_with fail
  refine (HS.out _).mono ?_
  rintro r w1 ⟨v1, rfl, i1, b1⟩
  have I1 := Lib.hid i1
  have T1 := Lib.hid b1
  clear i1 b1
  go_wp2_with fail
  refine (HI.out _).mono ?_
  rintro r w2 ⟨v2, rfl, i2, b2⟩
  have I2 := Lib.hid i2
  have I12 := Lib.hid (I1.out.below b2 (Nat.le_refl _))
  have s2 := b2.size
  have T2 := Lib.hid (t_stepS T1.out b2)
  clear i2 b2
  go_wp2_with fail
  refine (eqs_same _ _ _ ws I2.out.at I12.out.at).mono ?_
  rintro r w3 ⟨rfl, k3, rfl⟩
  go_wp2_with fail
  refine (mark_ownS _ _ v2 ws 1 (I2.out.drewN k3) (by omega) (by omega)).mono ?_
  rintro r w4 ⟨rfl, j4, g4⟩
  have J4 := Lib.hid j4
  have I14 := Lib.hid (Strs.grown (I12.out.drewN k3) g4 (by
    cases e : v1.ownBlock with
    | none => exact .inl rfl
    | some k =>
      right
      intro e'
      have a1 := (World.ownsRow.lt I1.out k e).2
      have a2 := (World.ownsRow.lt I2.out k e'.symm).1
      omega))
  have b4 := (Below.refl w1.heap.size (w2.drewN k3)).grown g4 s2 (fun k hk => (World.ownsRow.lt I2.out k hk).1)
  have T4 := Lib.hid ((Go.below_drewN T2.out k3).trans (b4.mono T1.out.size))
  obtain ⟨q, hq⟩ : ∃ q, 1 + ws.length = q := ⟨_, rfl⟩
  rw [hq]
  have t5 : decide ((q : Int) < 0) = false := by simp
  have tq : ((q : Int) != (q : Int)) = false := by simp
  have HQ := Lib.hid hq
  clear j4 g4 b4 hq
  go_wp2_with fail
  refine (held_marksS _ v2 1 ws.length J4.out.at (by omega) (by omega)).mono ?_
  rintro r w5 ⟨rfl, b5⟩
  have J5 := Lib.hid (J4.out.below b5 (Nat.le_refl _))
  have I15 := Lib.hid (I14.out.below b5 (Nat.le_refl _))
  have T5 := Lib.hid (t_stepS T4.out b5)
  rw [HQ.out]
  clear b5
  go_wp2_with fail
  refine (HI.out _).mono ?_
  rintro r w6 ⟨v6, rfl, i6, b6⟩
  have I6 := Lib.hid i6
  have J6 := Lib.hid (J5.out.below b6 (Nat.le_refl _))
  have I16 := Lib.hid (I15.out.below b6 (Nat.le_refl _))
  have T6 := Lib.hid (t_stepS T5.out b6)
  clear i6 b6
  go_wp2_with fail
  refine (eqs_same _ _ _ ws I6.out.at I16.out.at).mono ?_
  rintro r w7 ⟨rfl, k7, rfl⟩
  go_wp2_with fail
  refine (held_marksS _ v2 1 ws.length (J6.out.drewN k7).at (by omega) (by omega)).mono ?_
  rintro r w8 ⟨rfl, b8⟩
  rw [HQ.out]
  have T8 := Lib.hid (t_stepS (Go.below_drewN T6.out k7) b8)
  clear b8
  go_wp2
  go_ret
  exact ⟨rfl, T8.out⟩
end Go.Proofs.Ytocjdjgfadaljaa
