/- ReadList, by both packages. -/
import Derived.Test.YtijoejejdnhknaaDoorRs
import Derived.Test.YtijoejejdnhknaaDoorTxt
import Derived.Test.YtijoejejdnhknaaDoorCuts
namespace Go.Proofs.YtijoejejdnhknaaDoor
open Go.RowKit Go.ChangeShapes Go.WideShapes
set_option linter.unusedVariables false

/-- What is laid, and the library's own variable. -/
def Laid6 (w : World) : Prop := Laid5 w ∧ ∃ m, w.cell? ⟨0, 0, none⟩ = some (.int .i64 m)
theorem Laid6.lt {w : World} (h : Laid6 w) : 0 < w.heap.size := by
  obtain ⟨_, m, h⟩ := h
  exact World.block_lt_of_cell? w _ h
theorem Laid6.below {w0 w w' : World} (h : Laid6 w) (hb : Below w0.heap.size w w') (h0 : Laid6 w0) : Laid6 w' := by
  have p1 := h0.1.pos
  have p2 := h0.lt
  obtain ⟨a, m, b⟩ := h
  exact ⟨a.below hb p1, m, by rw [hb.cell (p := ⟨0, 0, none⟩) p2]; exact b⟩

noncomputable def okP (p : ByteArray) : Bool := rdB p && lsB (rdA p)
noncomputable def rlA (s : ByteArray) : List Int := if s = ⟨#[45]⟩ then [] else if 100 < (ctB s).length then [] else if (ctB s).all okP = true then (ctB s).map rdA else []
noncomputable def rlB (s : ByteArray) : Bool := if s = ⟨#[45]⟩ then true else if 100 < (ctB s).length then false else (ctB s).all okP
theorem rl_dash : rlA ⟨#[45]⟩ = [] ∧ rlB ⟨#[45]⟩ = true := by unfold rlA rlB; rw [if_pos rfl, if_pos rfl]; exact ⟨rfl, rfl⟩
theorem rl_big {s : ByteArray} (h : s ≠ ⟨#[45]⟩) (hb : 100 < (ctB s).length) : rlA s = [] ∧ rlB s = false := by unfold rlA rlB; rw [if_neg h, if_neg h, if_pos hb, if_pos hb]; exact ⟨rfl, rfl⟩
theorem rl_ok {s : ByteArray} (h : s ≠ ⟨#[45]⟩) (hb : (ctB s).length ≤ 100) (ha : ∀ p ∈ ctB s, okP p = true) : rlA s = (ctB s).map rdA ∧ rlB s = true := by
  have e : (ctB s).all okP = true := List.all_eq_true.2 ha
  unfold rlA rlB
  have nb : ¬ 100 < (ctB s).length := by omega
  rw [if_neg h, if_neg h, if_neg nb, if_neg nb, if_pos e, e]
  exact ⟨rfl, rfl⟩
theorem rl_bad {s : ByteArray} (h : s ≠ ⟨#[45]⟩) (hb : (ctB s).length ≤ 100) {p : ByteArray} (hp : p ∈ ctB s) (hq : okP p = false) : rlA s = [] ∧ rlB s = false := by
  have e : ¬ (ctB s).all okP = true := fun e => by have := List.all_eq_true.1 e p hp; rw [hq] at this; cases this
  unfold rlA rlB
  have nb : ¬ 100 < (ctB s).length := by omega
  rw [if_neg h, if_neg h, if_neg nb, if_neg nb, if_neg e]
  exact ⟨rfl, by simpa using e⟩
theorem dash_ne {s : ByteArray} (h : s ≠ ⟨#[45]⟩) : (s.toList == [45]) = false := by
  simp only [beq_eq_false_iff_ne, ne_eq]
  intro e
  apply h
  apply ByteArray.ext
  rw [ByteArray.toList_eq] at e
  exact Array.toList_inj.1 e
theorem take_getP {ss : List ByteArray} {j : Nat} (h : j < ss.length) : ss.take (j + 1) = ss.take j ++ [ss.getD j ByteArray.empty] := by
  rw [List.take_succ_eq_append_getElem h]
  simp [List.getD, List.getElem?_eq_getElem h]
theorem mem_getP {ss : List ByteArray} {j : Nat} (h : j < ss.length) : ss.getD j ByteArray.empty ∈ ss := by
  rw [show ss.getD j ByteArray.empty = ss[j] by simp [List.getD, List.getElem?_eq_getElem h]]
  exact List.getElem_mem _
theorem lsB_yes {n : Int} (h : lsB n = true) : -999999999 ≤ n ∧ n ≤ 999999999 := by
  unfold lsB at h
  simpa only [Bool.and_eq_true, decide_eq_true_eq] using h
theorem lsB_no {n : Int} (h : lsB n = false) : n < -999999999 ∨ 999999999 < n := by
  by_cases e : -999999999 ≤ n ∧ n ≤ 999999999
  · unfold lsB at h; rw [decide_eq_true e.1, decide_eq_true e.2] at h; cases h
  · omega
theorem parts_of {w : World} {v : Value} {ss : List ByteArray} (h : StrsAt w v ss) : ∃ a cap, v = .slice a ss.length cap ∧ ∀ j, j < ss.length → ∃ g off, a = some ⟨g, off, none⟩ ∧ g < w.heap.size ∧ w.cell? ⟨g, off + j, none⟩ = some (.string (ss.getD j ByteArray.empty)) := by
  obtain ⟨a, cap, e, hc⟩ := h.shape
  refine ⟨a, cap, e, fun j hj => ?_⟩
  obtain ⟨g, off, h1, h2⟩ := hc j hj
  exact ⟨g, off, h1, World.block_lt_of_cell? w _ h2, h2⟩

set_option maxHeartbeats 4000000 in
theorem srl (s : ByteArray) (w : World) (hs : s.size ≤ 1048576) :
    Calls Tryd.prog 20 #[.string s] w fun e w' => ∃ v, e = .returned (.tuple #[v, .bool (rlB s)]) ∧ Ints w' w.heap.size v (rlA s) ∧ Below w.heap.size w w' := by
  by_cases hd : s = ⟨#[45]⟩
  · subst hd
    have V := Lib.hid rl_dash
    have HI : Hid (Ints (w.alloc (.cells #[] 2)) w.heap.size (.slice (some ⟨w.heap.size, 0, none⟩) 0 0) []) := World.ownsRow_made w #[] 0 (Nat.le_refl _) (by decide) rfl
    have HB : Hid (Below w.heap.size w (w.alloc (.cells #[] 2))) := (Below.refl _ _).alloc (Nat.le_refl _) _
    go_enter Tryd.func20, Tryd.ntmps20
    go_wp2
    go_ret2
    exact ⟨_, by rw [V.out.2]; rfl, by rw [V.out.1]; exact HI.out, HB.out⟩
  have t0 := dash_ne hd
  have HP := Lib.hid (scut s w hs)
  have pm := Lib.hid (fun p h => ct_mem_size s p h)
  have BIG := Lib.hid (fun h => rl_big hd h)
  have OKV := Lib.hid (fun h1 h2 => rl_ok hd h1 h2)
  have BAD := Lib.hid (fun h1 (p : ByteArray) h2 h3 => rl_bad (p := p) hd h1 h2 h3)
  have pl := ct_len_le s
  obtain ⟨ps, hps⟩ : ∃ ps, ctB s = ps := ⟨_, rfl⟩
  rw [hps] at HP pm BIG OKV BAD pl
  obtain ⟨va, hva⟩ : ∃ va, rlA s = va := ⟨_, rfl⟩
  obtain ⟨vb, hvb⟩ : ∃ vb, rlB s = vb := ⟨_, rfl⟩
  rw [hva, hvb] at BIG OKV BAD ⊢
  clear hps hva hvb hd
  go_enter Tryd.func20, Tryd.ntmps20
  go_wp2_with fail
  refine HP.out.mono ?_
  rintro e w1 ⟨v, rfl, i1, b1⟩
  obtain ⟨a, cap, rfl, hc⟩ := parts_of i1.at
  have HC := Lib.hid hc
  have T1 := Lib.hid b1
  have TK : Hid (∀ j, j < ps.length → ps.take (j + 1) = ps.take j ++ [ps.getD j ByteArray.empty]) := fun j hj => take_getP hj
  have MM : Hid (∀ j, j < ps.length → ps.getD j ByteArray.empty ∈ ps) := fun j hj => mem_getP hj
  have TL : Hid (ps.take ps.length = ps) := List.take_length
  clear i1 b1 hc HP
  by_cases hbig : 100 < ps.length
  · have V := Lib.hid (BIG.out hbig)
    have g1 : decide ((100 : Int) < (ps.length : Int)) = true := decide_eq_true (by omega)
    clear hbig
    go_wp2
    go_ret2
    exact ⟨_, by rw [V.out.2]; rfl, by rw [V.out.1]; exact World.ownsRow_nil _ _ _ _, T1.out⟩
  have g1 : decide ((100 : Int) < (ps.length : Int)) = false := decide_eq_false (by omega)
  have g1' : decide (100 < ps.length) = false := decide_eq_false (by omega)
  have m100 : ps.length ≤ 100 := by omega
  have OK2 := Lib.hid (fun h => OKV.out m100 h)
  have BAD2 := Lib.hid (fun (p : ByteArray) h2 h3 => BAD.out m100 p h2 h3)
  obtain ⟨m, hm⟩ : ∃ m, ps.length = m := ⟨_, rfl⟩
  rw [hm] at HC pl TK TL MM g1 g1' m100 ⊢
  clear hm OKV BAD BIG hbig
  go_wp2
  obtain ⟨wo, hwo⟩ : ∃ wo, w1.alloc (.cells #[] 2) = wo := ⟨_, rfl⟩
  have HI : Hid (Ints wo w1.heap.size (.slice (some ⟨w1.heap.size, 0, none⟩) 0 0) []) := by rw [← hwo]; exact World.ownsRow_made w1 #[] 0 (Nat.le_refl _) (by decide) rfl
  have HB : Hid (Below w1.heap.size w1 wo) := by rw [← hwo]; exact (Below.refl _ _).alloc (Nat.le_refl _) _
  rw [hwo]
  clear hwo
  obtain ⟨B, hB⟩ : ∃ B, w1.heap.size = B := ⟨_, rfl⟩
  rw [hB] at HI HB HC ⊢
  have HE := Lib.hid hB
  have T1s : Hid (w.heap.size ≤ B) := by unfold Hid; rw [← hB]; exact T1.out.size
  clear hB
  go_loopw [5, 6] (fun v i wr => ∃ (j : Nat), j ≤ m ∧ i = .int .i64 j ∧ Hid (∀ p ∈ ps.take j, okP p = true) ∧ Hid (Ints wr B v ((ps.take j).map rdA)) ∧ Hid (Below B w1 wr)) (fun _ i _ => m - (intOf i).toNat)
  case atStart => exact ⟨0, by omega, rfl, fun p hp => by simp at hp, HI, HB⟩
  case round =>
    obtain ⟨j, hj, rfl, hA, hI, hBl⟩ := hrel
    have s2 : B ≤ wr.heap.size := by have := hBl.out.size; have := HE.out; omega
    by_cases c : j < m
    · have k1 : decide (j < m) = true := decide_eq_true c
      obtain ⟨g, off, rfl, hg, cj⟩ := HC.out j c
      have TK2 := TK.out j c
      have MX := MM.out j c
      obtain ⟨x, hx⟩ : ∃ x, ps.getD j ByteArray.empty = x := ⟨_, rfl⟩
      rw [hx] at cj TK2 MX
      have cx : wr.cell? ⟨g, off + j, none⟩ = some (.string x) := by
        rw [hBl.out.cell (p := ⟨g, off + j, none⟩) hg, cj]
      have j0 : (0 : Int) ≤ (j : Int) := by omega
      have j1 : (j : Int) < (m : Int) := by omega
      have w3 := IntWalk.i64_in ((j : Int) + 1) (by omega)
      have HN := Lib.hid (snum x wr (by have := pm.out x MX; omega))
      have hlen : ((ps.take j).map rdA).length ≤ 100 := by rw [List.length_map, List.length_take]; omega
      obtain ⟨n, hn⟩ : ∃ n, rdA x = n := ⟨_, rfl⟩
      cases hb : rdB x with
      | false =>
        rw [hb, hn] at HN
        have V := Lib.hid (BAD2.out x MX (by unfold okP; rw [hb]; rfl))
        clear TK2 MX hx cj hg hn hb
        go_wp2_with fail
        refine HN.out.mono ?_
        rintro e w2 ⟨rfl, b2⟩
        have B2 := Lib.hid (hBl.out.trans (b2.mono s2))
        clear b2
        go_wp2
        go_ret2
        exact ⟨_, by rw [V.out.2]; rfl, by rw [V.out.1]; exact World.ownsRow_nil _ _ _ _, T1.out.trans (B2.out.mono T1s.out)⟩
      | true =>
        rw [hb, hn] at HN
        cases hl : lsB n with
        | false =>
          have V := Lib.hid (BAD2.out x MX (by unfold okP; rw [hb, hn, hl]; rfl))
          have hIn := Lib.hid (fun W : World => in_no n (-999999999) 999999999 W (lsB_no hl))
          clear TK2 MX hx cj hg hn hb hl
          go_wp2_with fail
          refine HN.out.mono ?_
          rintro e w2 ⟨rfl, b2⟩
          have B2 := Lib.hid (hBl.out.trans (b2.mono s2))
          clear b2
          go_wp2_with (go_at_call 31; refine (hIn.out _).mono ?_; rintro e w' ⟨rfl, rfl⟩)
          go_ret2
          exact ⟨_, by rw [V.out.2]; rfl, by rw [V.out.1]; exact World.ownsRow_nil _ _ _ _, T1.out.trans (B2.out.mono T1s.out)⟩
        | true =>
          obtain ⟨l1, l2⟩ := lsB_yes hl
          have hIn := Lib.hid (fun W : World => in_yes n (-999999999) 999999999 W l1 l2)
          have A2 : Hid (∀ p ∈ ps.take (j + 1), okP p = true) := fun p hp => by
            rw [TK2] at hp
            rcases List.mem_append.1 hp with hp | hp
            · exact hA.out p hp
            · simp only [List.mem_singleton] at hp; rw [hp]; unfold okP; rw [hb, hn, hl]; rfl
          have L2 : Hid ((ps.take j).map rdA ++ [n] = (ps.take (j + 1)).map rdA) := by unfold Hid; rw [TK2, List.map_append, ← hn]; rfl
          clear TK2 MX hx cj hg hn hb hl
          go_wp2_with fail
          refine HN.out.mono ?_
          rintro e w2 ⟨rfl, b2⟩
          have B2 := Lib.hid (hBl.out.trans (b2.mono s2))
          have I2 := Lib.hid (hI.out.below b2 (Nat.le_refl _))
          have s3 : B ≤ w2.heap.size := Nat.le_trans s2 b2.size
          clear b2
          go_wp2_with (first | (go_at_call 31; refine (hIn.out _).mono ?_; rintro e w' ⟨rfl, rfl⟩) | (at_builtin; refine wpList_push _ (by rfl) _ _ (by rfl) B _ _ (by rfl) I2.out n _ (by rfl) (by omega) s3 ?_; intro v' w6 hn hb; have HN' := Lib.hid hn; have HB2 := Lib.hid hb; clear hn hb))
          go_roundw
          case rel => exact ⟨j + 1, by omega, by go_num, A2, by unfold Hid; rw [← L2.out]; exact HN'.out, B2.out.trans HB2.out⟩
          case measure => simp [intOf]; omega
    · have k1 : decide (j < m) = false := decide_eq_false c
      obtain rfl : j = m := by omega
      rw [TL.out] at hA hI
      have V := Lib.hid (OK2.out hA.out)
      go_wp2
      go_ret2
      exact ⟨_, by rw [V.out.2]; rfl, by rw [V.out.1]; exact hI.out.mono T1s.out, T1.out.trans (hBl.out.mono T1s.out)⟩

theorem icount (s : ByteArray) (w : World) :
    Calls Tryd.prog 29 #[.string s, .string ⟨#[44]⟩] w fun e w' => e = .returned (.int .i64 ((ctB s).length - 1 : Nat)) ∧ w' = w := by
  refine (Go.Proofs.Tryd.strings_Count_one s 44 w).mono ?_
  rintro e w' ⟨rfl, rfl⟩
  refine ⟨?_, rfl⟩
  rw [ct_length]
  rfl
theorem icut (s : ByteArray) (w : World) (hs : s.size ≤ 1048576) (hm : ∃ m, w.cell? ⟨0, 0, none⟩ = some (.int .i64 m)) :
    Calls Tryd.prog 30 #[.string s, .string ⟨#[44]⟩] w fun e w' => ∃ v, e = .returned v ∧ Strs w' w.heap.size v (ctB s) ∧ Below w.heap.size w w' := by
  obtain ⟨m, hm⟩ := hm
  refine (Go.Proofs.Tryd.strings_Split s ⟨#[44]⟩ m w (by omega) hm (by decide)).mono ?_
  rintro e w' ⟨rfl, rfl⟩
  rw [ct_countB, ct_lib]
  refine ⟨_, rfl, ?_, (Below.refl _ _).alloc (Nat.le_refl _) _⟩
  have := World.ownsRow_lit (base := w.heap.size) (e := 9) (size := 1) w ((ctB s).map Value.string).toArray (ctB s).length (Nat.le_refl _) (by have := ct_len_le s; unfold maxLen; omega) (by simp)
  unfold Strs
  simpa using this

set_option maxHeartbeats 4000000 in
theorem irl (s : ByteArray) (w : World) (hs : s.size ≤ 1048576) (ht : Laid6 w) :
    Calls Tryd.prog 11 #[.string s] w fun e w' => ∃ v, e = .returned (.tuple #[v, .bool (rlB s)]) ∧ Ints w' w.heap.size v (rlA s) ∧ Below w.heap.size w w' := by
  by_cases hd : s = ⟨#[45]⟩
  · subst hd
    have V := Lib.hid rl_dash
    go_enter Tryd.func11, Tryd.ntmps11
    go_wp2
    go_ret2
    exact ⟨_, by rw [V.out.2]; rfl, by rw [V.out.1]; exact World.ownsRow_nil _ _ _ _, Below.refl _ _⟩
  have t0 := dash_ne hd
  have HT := Lib.hid ht
  have HK := Lib.hid (icount s w)
  have HP := Lib.hid (icut s w hs ht.2)
  have pm := Lib.hid (fun p h => ct_mem_size s p h)
  have BIG := Lib.hid (fun h => rl_big hd h)
  have OKV := Lib.hid (fun h1 h2 => rl_ok hd h1 h2)
  have BAD := Lib.hid (fun h1 (p : ByteArray) h2 h3 => rl_bad (p := p) hd h1 h2 h3)
  have pl := ct_len_le s
  have pos : 1 ≤ (ctB s).length := by rw [ct_length]; omega
  obtain ⟨ps, hps⟩ : ∃ ps, ctB s = ps := ⟨_, rfl⟩
  rw [hps] at HP HK pm BIG OKV BAD pl pos
  obtain ⟨va, hva⟩ : ∃ va, rlA s = va := ⟨_, rfl⟩
  obtain ⟨vb, hvb⟩ : ∃ vb, rlB s = vb := ⟨_, rfl⟩
  rw [hva, hvb] at BIG OKV BAD ⊢
  obtain ⟨k, hk⟩ : ∃ k : Nat, ps.length - 1 = k := ⟨_, rfl⟩
  rw [hk] at HK
  clear hps hva hvb hd ht
  by_cases hbig : 100 < ps.length
  · have V := Lib.hid (BIG.out hbig)
    have g1 : decide ((100 : Int) ≤ (k : Int)) = true := decide_eq_true (by omega)
    have g1' : decide (100 ≤ k) = true := decide_eq_true (by omega)
    clear hbig hk
    go_enter Tryd.func11, Tryd.ntmps11
    go_wp2_with fail
    refine HK.out.mono ?_
    rintro e w1 ⟨rfl, rfl⟩
    go_wp2
    go_ret2
    exact ⟨_, by rw [V.out.2]; rfl, by rw [V.out.1]; exact World.ownsRow_nil _ _ _ _, Below.refl _ _⟩
  have g1 : decide ((100 : Int) ≤ (k : Int)) = false := decide_eq_false (by omega)
  have g1' : decide (100 ≤ k) = false := decide_eq_false (by omega)
  have m100 : ps.length ≤ 100 := by omega
  have OK2 := Lib.hid (fun h => OKV.out m100 h)
  have BAD2 := Lib.hid (fun (p : ByteArray) h2 h3 => BAD.out m100 p h2 h3)
  have TK : Hid (∀ j, j < ps.length → ps.take (j + 1) = ps.take j ++ [ps.getD j ByteArray.empty]) := fun j hj => take_getP hj
  have MM : Hid (∀ j, j < ps.length → ps.getD j ByteArray.empty ∈ ps) := fun j hj => mem_getP hj
  have TL : Hid (ps.take ps.length = ps) := List.take_length
  clear OKV BAD BIG hbig hk
  go_enter Tryd.func11, Tryd.ntmps11
  go_wp2_with fail
  refine HK.out.mono ?_
  rintro e w0 ⟨rfl, rfl⟩
  go_wp2_with fail
  refine HP.out.mono ?_
  rintro e w1 ⟨v, rfl, i1, b1⟩
  obtain ⟨a, cap, rfl, hc⟩ := parts_of i1.at
  have HC := Lib.hid hc
  have T1 := Lib.hid b1
  have HT1 := Lib.hid (HT.out.below b1 HT.out)
  clear i1 b1 hc HP
  obtain ⟨m, hm⟩ : ∃ m, ps.length = m := ⟨_, rfl⟩
  rw [hm] at HC pl pos TK TL MM m100 ⊢
  clear hm
  have HI : Hid (Ints w1 w1.heap.size (.slice none 0 0) []) := World.ownsRow_nil _ _ _ _
  have HB : Hid (Below w1.heap.size w1 w1) := Below.refl _ _
  obtain ⟨B, hB⟩ : ∃ B, w1.heap.size = B := ⟨_, rfl⟩
  rw [hB] at HI HB HC
  have HE := Lib.hid hB
  have T1s : Hid (w0.heap.size ≤ B) := by unfold Hid; rw [← hB]; exact T1.out.size
  clear hB
  go_wp2
  go_loopw [4, 17] (fun v i wr => ∃ (j : Nat), j ≤ m ∧ i = .int .i64 j ∧ Hid (∀ p ∈ ps.take j, okP p = true) ∧ Hid (Ints wr B v ((ps.take j).map rdA)) ∧ Hid (Below B w1 wr)) (fun _ i _ => m - (intOf i).toNat)
  case atStart => exact ⟨0, by omega, rfl, fun p hp => by simp at hp, HI, HB⟩
  case round =>
    obtain ⟨j, hj, rfl, hA, hI, hBl⟩ := hrel
    have s2 : B ≤ wr.heap.size := by have := hBl.out.size; have := HE.out; omega
    by_cases c : j < m
    · have k1 : decide (j < m) = true := decide_eq_true c
      obtain ⟨g, off, rfl, hg, cj⟩ := HC.out j c
      have TK2 := TK.out j c
      have MX := MM.out j c
      obtain ⟨x, hx⟩ : ∃ x, ps.getD j ByteArray.empty = x := ⟨_, rfl⟩
      rw [hx] at cj TK2 MX
      have cx : wr.cell? ⟨g, off + j, none⟩ = some (.string x) := by
        rw [hBl.out.cell (p := ⟨g, off + j, none⟩) hg, cj]
      have j0 : (0 : Int) ≤ (j : Int) := by omega
      have j1 : (j : Int) < (m : Int) := by omega
      have w3 := IntWalk.i64_in ((j : Int) + 1) (by omega)
      have HN := Lib.hid (iread x wr (by have := pm.out x MX; omega) (HT1.out.below (by rw [HE.out]; exact hBl.out) HT1.out).1)
      have hlen : ((ps.take j).map rdA).length ≤ 100 := by rw [List.length_map, List.length_take]; omega
      obtain ⟨n, hn⟩ : ∃ n, rdA x = n := ⟨_, rfl⟩
      cases hb : rdB x with
      | false =>
        rw [hb, hn] at HN
        have V := Lib.hid (BAD2.out x MX (by unfold okP; rw [hb]; rfl))
        clear TK2 MX hx cj hg hn hb
        go_wp2_with fail
        refine HN.out.mono ?_
        rintro e w2 ⟨rfl, b2⟩
        have B2 := Lib.hid (hBl.out.trans (b2.mono s2))
        clear b2
        go_wp2
        go_ret2
        exact ⟨_, by rw [V.out.2]; rfl, by rw [V.out.1]; exact World.ownsRow_nil _ _ _ _, T1.out.trans (B2.out.mono T1s.out)⟩
      | true =>
        rw [hb, hn] at HN
        cases hl : lsB n with
        | false =>
          have V := Lib.hid (BAD2.out x MX (by unfold okP; rw [hb, hn, hl]; rfl))
          have hr : n < -999999999 ∨ (¬ n < -999999999 ∧ 999999999 < n) := by
            have := lsB_no hl
            omega
          clear TK2 MX hx cj hg hn hb hl
          rcases hr with h | ⟨h, h'⟩
          all_goals
            go_wp2_with fail
            refine HN.out.mono ?_
            rintro e w2 ⟨rfl, b2⟩
            have B2 := Lib.hid (hBl.out.trans (b2.mono s2))
            clear b2
            go_wp2
            go_ret2
            exact ⟨_, by rw [V.out.2]; rfl, by rw [V.out.1]; exact World.ownsRow_nil _ _ _ _, T1.out.trans (B2.out.mono T1s.out)⟩
        | true =>
          obtain ⟨l1, l2⟩ := lsB_yes hl
          have n1 : decide (n < -999999999) = false := decide_eq_false (by omega)
          have n2 : decide ((999999999 : Int) < n) = false := decide_eq_false (by omega)
          have A2 : Hid (∀ p ∈ ps.take (j + 1), okP p = true) := fun p hp => by
            rw [TK2] at hp
            rcases List.mem_append.1 hp with hp | hp
            · exact hA.out p hp
            · simp only [List.mem_singleton] at hp; rw [hp]; unfold okP; rw [hb, hn, hl]; rfl
          have L2 : Hid ((ps.take j).map rdA ++ [n] = (ps.take (j + 1)).map rdA) := by unfold Hid; rw [TK2, List.map_append, ← hn]; rfl
          clear TK2 MX hx cj hg hn hb hl
          go_wp2_with fail
          refine HN.out.mono ?_
          rintro e w2 ⟨rfl, b2⟩
          have B2 := Lib.hid (hBl.out.trans (b2.mono s2))
          have I2 := Lib.hid (hI.out.below b2 (Nat.le_refl _))
          have s3 : B ≤ w2.heap.size := Nat.le_trans s2 b2.size
          clear b2
          go_wp2_with (at_builtin; refine wpList_push _ (by rfl) _ _ (by rfl) B _ _ (by rfl) I2.out n _ (by rfl) (by omega) s3 ?_; intro v' w6 hn hb; have HN' := Lib.hid hn; have HB2 := Lib.hid hb; clear hn hb)
          go_roundw
          case rel => exact ⟨j + 1, by omega, by go_num, A2, by unfold Hid; rw [← L2.out]; exact HN'.out, B2.out.trans HB2.out⟩
          case measure => simp [intOf]; omega
    · have k1 : decide (j < m) = false := decide_eq_false c
      obtain rfl : j = m := by omega
      rw [TL.out] at hA hI
      have V := Lib.hid (OK2.out hA.out)
      go_wp2
      go_ret2
      exact ⟨_, by rw [V.out.2]; rfl, by rw [V.out.1]; exact hI.out.mono T1s.out, T1.out.trans (hBl.out.mono T1s.out)⟩
end Go.Proofs.YtijoejejdnhknaaDoor
