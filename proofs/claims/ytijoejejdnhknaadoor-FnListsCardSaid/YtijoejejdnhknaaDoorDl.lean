/- Draws of lists. -/
import Derived.Test.YtijoejejdnhknaaDoorDr
import Derived.Test.YtijoejejdnhknaaDoorTxt
namespace Go.Proofs.YtijoejejdnhknaaDoor
open Go.RowKit
set_option linter.unusedVariables false

/-- A number that a variable of int64 can hold. -/
def I64 (n : Int) : Prop := -9223372036854775808 ≤ n ∧ n ≤ 9223372036854775807
theorem wrap_I64 (n : Int) : I64 (wrap64 n) := by
  rw [← IntWalk.i64_left]
  unfold I64
  rw [IntKind.wrap_i64]; omega
theorem Ints.allocI {w : World} {B : Nat} {v : Value} {xs : List Int} (h : Ints w B v xs) (o : Obj) : Ints (w.alloc o) B v xs := World.ownsRow.alloc h o
theorem Ints.len_eq {w : World} {B : Nat} {v : Value} {xs : List Int} (h : Ints w B v xs) : ∃ a c, v = .slice a xs.length c := by
  obtain ⟨_, ⟨rfl, h2⟩ | ⟨g, cap, cur, rfl, _⟩⟩ := h
  · exact ⟨none, 0, by rw [h2]⟩
  · exact ⟨_, _, rfl⟩

set_option maxHeartbeats 2000000 in
theorem drawWide (w : World) (p : Nat) (m : Int) (hs : Src w p m) (hm : m ≤ 100000000) :
    Calls Tryd.prog 37 #[.pointer (some ⟨p, 0, none⟩)] w fun e w' => ∃ n, e = .returned (.int .i64 n) ∧ I64 n ∧ DrawOut w p (m + 20) w' := by
  have HS := Lib.hid hs
  clear hs
  go_enter Tryd.func37, Tryd.ntmps37
  go_wp2_with fail
  refine (pick_any _ p m 4 HS.out (by omega) (by omega)).mono ?_
  rintro e w1 ⟨v, rfl, ⟨q0, _, _⟩, o1⟩
  have O1 := Lib.hid o1.draw
  clear o1
  by_cases c0 : v = 0
  · subst c0
    go_wp2_with fail
    refine (among_any _ p (m + 2) (O1.out.1.alloc _) (by omega) _ [-9223372036854775808, 9223372036854775807, 4294967296, -4294967296, 2147483648, -2147483649, 4294967295] (lit_ints w1 [-9223372036854775808, 9223372036854775807, 4294967296, -4294967296, 2147483648, -2147483649, 4294967295] _ (by decide)) (by decide) (by decide) (fun b hb => by have := O1.out.1.lt; simp [Value.ownBlock] at hb; omega)).mono ?_
    rintro e w2 ⟨n, rfl, hn, o2⟩
    have O2 := Lib.hid ((O1.out.alloc _).trans o2.draw)
    have hb : I64 n := by unfold I64; simp at hn; omega
    have HB := Lib.hid hb
    clear o2 hn hb
    go_wp2
    go_ret
    exact ⟨n, rfl, HB.out, O2.out.mono (by omega)⟩
  have t0 : (v == 0) = false := by simpa using c0
  by_cases c1 : v = 1
  · subst c1
    clear c0
    go_wp2_with fail
    refine (next_any _ p (m + 2) O1.out.1 (by omega)).mono ?_
    rintro e w2 ⟨n, rfl, ⟨n0, n1⟩, o2⟩
    have O2 := Lib.hid (O1.out.trans o2.draw)
    have N2 : Hid (I64 n) := ⟨by omega, by omega⟩
    clear o2 n0 n1
    go_wp2
    go_loopw [3, 4] (fun v i wr => ∃ (j : Nat) (n : Int), j ≤ 7 ∧ i = .int .i64 j ∧ v = .int .i64 n ∧ Hid (I64 n) ∧ Hid (DrawOut w p (m + 3 + j) wr)) (fun _ i _ => 7 - (intOf i).toNat)
    case atStart => exact ⟨0, n, by omega, rfl, rfl, N2, O2.out.mono (by omega)⟩
    case round =>
      obtain ⟨j, n, hj, rfl, rfl, hN, hO⟩ := hrel
      by_cases c : j < 7
      · have g1 : decide (j < 7) = true := by simpa using c
        have g1' : decide ((j : Int) < 7) = true := by simp; omega
        have w3 := wrapk (n := (j : Int) + 1) (by omega)
        go_wp2_with fail
        refine (next_any _ p (m + 3 + j) hO.out.1 (by omega)).mono ?_
        rintro e w4 ⟨t, rfl, _, o4⟩
        have O4 := Lib.hid (hO.out.trans o4.draw)
        clear o4
        go_wp2
        go_roundw
        case rel => exact ⟨j + 1, _, by omega, by go_num, rfl, wrap_I64 _, O4.out.mono (by omega)⟩
        case measure => simp [intOf]; omega
      · have g1 : decide (j < 7) = false := by simpa using c
        have g1' : decide ((j : Int) < 7) = false := by simp; omega
        go_wp2
        go_ret
        exact ⟨n, rfl, hN.out, hO.out.mono (by omega)⟩
  have t1 : (v == 1) = false := by simpa using c1
  clear c0 c1
  go_wp2_with fail
  refine (pick_any _ p (m + 2) 41 O1.out.1 (by omega) (by omega)).mono ?_
  rintro e w2 ⟨n, rfl, ⟨n0, n1, _⟩, o2⟩
  have O2 := Lib.hid (O1.out.trans o2.draw)
  have := n1 (by omega)
  have w3 := wrapk (n := n - 20) (by omega)
  have N2 : Hid (I64 (n - 20)) := ⟨by omega, by omega⟩
  clear o2
  go_wp2
  go_ret
  exact ⟨_, rfl, N2.out, O2.out.mono (by omega)⟩

set_option maxHeartbeats 2000000 in
theorem drawList (w : World) (p : Nat) (m : Int) (hs : Src w p m) (hm : m ≤ 10000000) :
    Calls Tryd.prog 24 #[.pointer (some ⟨p, 0, none⟩)] w fun e w' => ∃ v xs, e = .returned v ∧ Ints w' w.heap.size v xs ∧ xs.length ≤ 6 ∧ (∀ x ∈ xs, I64 x) ∧ DrawOut w p (m + 100) w' := by
  have HS := Lib.hid hs
  have hp := hs.lt
  clear hs
  go_enter Tryd.func24, Tryd.ntmps24
  go_wp2_with fail
  obtain ⟨wo, hwo⟩ : ∃ wo, w.alloc (.cells #[] 2) = wo := ⟨_, rfl⟩
  have HI : Hid (Ints wo w.heap.size (.slice (some ⟨w.heap.size, 0, none⟩) 0 0) []) := by rw [← hwo]; exact World.ownsRow_made w #[] 0 (Nat.le_refl _) (by decide) rfl
  have O0 : Hid (DrawOut w p m wo) := by rw [← hwo]; exact (DrawOut.refl HS.out).alloc _
  rw [hwo]
  clear hwo
  obtain ⟨B, hB⟩ : ∃ B, w.heap.size = B := ⟨_, rfl⟩
  rw [hB] at HI hp ⊢
  have HE := Lib.hid hB
  clear hB
  refine (pick_any _ p m 6 O0.out.1 (by omega) (by omega)).mono ?_
  rintro e w1 ⟨many, rfl, ⟨q0, q1, _⟩, o1⟩
  have hq := q1 (by omega)
  have O1 := Lib.hid (O0.out.trans o1.draw)
  have I1 := Lib.hid (HI.out.draw o1.draw hp)
  obtain ⟨c, rfl, hc⟩ : ∃ c : Nat, many = c ∧ c ≤ 5 := ⟨many.toNat, by omega, by omega⟩
  clear o1 q1 q0 hq HI O0
  go_wp2
  go_loopw [3, 4] (fun v i wr => ∃ (j : Nat) (xs : List Int), j ≤ c ∧ i = .int .i64 j ∧ Hid (Ints wr B v xs) ∧ Hid (xs.length + j ≤ 5) ∧ Hid (∀ x ∈ xs, I64 x) ∧ Hid (DrawOut w p (m + 12 - 2 * j) wr)) (fun _ i _ => (intOf i).toNat)
  case atStart => exact ⟨c, [], by omega, rfl, I1.out, by unfold Hid; simp; omega, fun x hx => by simp at hx, O1.out.mono (by omega)⟩
  case round =>
    obtain ⟨j, xs, hj, rfl, hI, hX, hA, hO⟩ := hrel
    have lx := hX.out
    have s2 : B ≤ wr.heap.size := by have := hO.out.2.size; have := HE.out; omega
    by_cases l : 0 < j
    · have g1 : decide (0 < j) = true := by simpa using l
      have g1' : decide ((0 : Int) < (j : Int)) = true := by simp; omega
      have w3 := wrapk (n := (j : Int) - 1) (by omega)
      go_wp2_with fail
      refine (pick_any _ p (m + 12 - 2 * j) 5 hO.out.1 (by omega) (by omega)).mono ?_
      rintro e w4 ⟨t, rfl, ⟨t0, t1, _⟩, o4⟩
      have := t1 (by omega)
      have w5 := wrapk (n := t - 1) (by omega)
      have I4 := Lib.hid (hI.out.draw o4.draw hp)
      have O4 := Lib.hid (hO.out.trans o4.draw)
      have s4 : B ≤ w4.heap.size := by have := O4.out.2.size; have := HE.out; omega
      have A4 : Hid (∀ x ∈ xs ++ [t - 1], I64 x) := fun x hx => by
        rcases List.mem_append.1 hx with hx | hx
        · exact hA.out x hx
        · simp only [List.mem_singleton] at hx; rw [hx]; exact ⟨by omega, by omega⟩
      clear o4
      go_wp2_with (at_builtin; refine wpList_push _ (by rfl) _ _ (by rfl) B _ _ (by rfl) I4.out (t - 1) _ (by rfl) (by omega) s4 ?_; intro v' w6 hn hb; have HN' := Lib.hid hn; have HB2 := Lib.hid hb; clear hn hb)
      go_roundw
      case rel => exact ⟨j - 1, _, by omega, by go_num, HN', by unfold Hid; simp; omega, A4, (O4.out.on (by rw [HE.out]; exact HB2.out) (by rw [HE.out]; exact hp)).mono (by omega)⟩
      case measure => simp [intOf]; omega
    · have g1 : decide (0 < j) = false := by simpa using l
      have g1' : decide ((0 : Int) < (j : Int)) = false := by simp; omega
      go_wp2_with fail
      refine (one_any _ p (m + 12 - 2 * j) 9 hO.out.1 (by omega) (by omega)).mono ?_
      rintro e w4 ⟨b, rfl, o4⟩
      have I4 := Lib.hid (hI.out.draw o4.draw hp)
      have O4 := Lib.hid (hO.out.trans o4.draw)
      clear o4
      cases b
      · go_wp2
        go_ret
        exact ⟨_, xs, rfl, by rw [HE.out]; exact I4.out, by omega, hA.out, O4.out.mono (by omega)⟩
      · go_wp2_with fail
        refine (drawWide _ p (m + 12 - 2 * j + 2) O4.out.1 (by omega)).mono ?_
        rintro e w5 ⟨t, rfl, ht, o5⟩
        have I5 := Lib.hid (I4.out.draw o5 hp)
        have O5 := Lib.hid (O4.out.trans o5)
        have s5 : B ≤ w5.heap.size := by have := O5.out.2.size; have := HE.out; omega
        have A5 : Hid (∀ x ∈ xs ++ [t], I64 x) := fun x hx => by
          rcases List.mem_append.1 hx with hx | hx
          · exact hA.out x hx
          · simp only [List.mem_singleton] at hx; rw [hx]; exact ht
        clear o5 ht
        go_wp2_with (at_builtin; refine wpList_push _ (by rfl) _ _ (by rfl) B _ _ (by rfl) I5.out t _ (by rfl) (by omega) s5 ?_; intro v' w6 hn hb; have HN' := Lib.hid hn; have HB2 := Lib.hid hb; clear hn hb)
        go_ret
        exact ⟨_, _, rfl, by rw [HE.out]; exact HN'.out, by simp; omega, A5.out, (O5.out.on (by rw [HE.out]; exact HB2.out) (by rw [HE.out]; exact hp)).mono (by omega)⟩

set_option maxHeartbeats 4000000 in
theorem drawListText (w : World) (a : Option Addr) (len cap : Nat) (zs : List Int) (h : IsRow .u8 w a len cap zs) (hl : len ≤ 1048576) :
    Calls Tryd.prog 9 #[.slice a len cap] w fun e w' => ∃ v xs, e = .returned v ∧ Ints w' w.heap.size v xs ∧ xs.length ≤ 200 ∧ (∀ x ∈ xs, I64 x) ∧ Below w.heap.size w w' := by
  have H := Lib.hid h
  clear h
  go_enter Tryd.func9, Tryd.ntmps9
  go_wp2_with fail
  refine (from_any _ a len cap zs H.out hl).mono ?_
  rintro e w1 ⟨rfl, s1, b1⟩
  have B1 := Lib.hid b1
  have S1 := Lib.hid s1
  have hp' : w.heap.size < w1.heap.size := s1.lt
  clear s1 b1
  go_wp2_with fail
  refine (drawList _ w.heap.size 0 S1.out (by omega)).mono ?_
  rintro e w2 ⟨v2, xs, rfl, i2, hx, ha, o2⟩
  obtain ⟨B, hB⟩ : ∃ B, w1.heap.size = B := ⟨_, rfl⟩
  obtain ⟨p, hp⟩ : ∃ p, w.heap.size = p := ⟨_, rfl⟩
  rw [hB, hp] at hp'
  rw [hB] at i2
  rw [hp] at o2
  have HP := Lib.hid hp
  have HE := Lib.hid hB
  have I2 := Lib.hid i2
  have O2 := Lib.hid o2
  have X2 := Lib.hid hx
  have A2 := Lib.hid ha
  rw [hp]
  have FIN : Hid (∀ w' m', DrawOut w1 p m' w' → Below p w w') := fun w' m' h => by
    have := h.below (by omega)
    have b := B1.out
    rw [hp] at b
    exact b.trans this
  clear i2 o2 hx ha hB hp
  -- the last part
  have LAST : ∀ (W : World) (v : Value) (xs : List Int) (m : Int), Ints W B v xs → xs.length ≤ 150 → (∀ x ∈ xs, I64 x) → DrawOut w1 p m W → m ≤ 10000 → True := fun _ _ _ _ _ _ _ _ _ => trivial
  clear LAST
  go_wp2_with fail
  refine (one_any _ p (0 + 100) 12 O2.out.1 (by omega) (by omega)).mono ?_
  rintro e w3 ⟨b, rfl, o3⟩
  have I3 := Lib.hid (I2.out.draw o3.draw hp')
  have O3 := Lib.hid (O2.out.trans o3.draw)
  clear o3 I2 O2
  have TAIL : ∀ b : Bool, True := fun _ => trivial
  clear TAIL
  cases b
  · go_wp2_with fail
    refine (one_any _ p (0 + 100 + 2) 6 O3.out.1 (by omega) (by omega)).mono ?_
    rintro e w4 ⟨b, rfl, o4⟩
    have I4 := Lib.hid (I3.out.draw o4.draw hp')
    have O4 := Lib.hid (O3.out.trans o4.draw)
    have lx := X2.out
    clear o4 I3 O3
    cases b
    · go_wp2
      go_ret
      exact ⟨_, xs, rfl, I4.out.mono (by have := HP.out; omega), by omega, A2.out, by rw [HP.out]; exact FIN.out _ _ O4.out⟩
    · go_wp2_with fail
      refine (among_any _ p (0 + 100 + 2 + 2) (O4.out.1.alloc _) (by omega) _ [999999999, -999999999, 1000000000, -1000000000] (lit_ints w4 [999999999, -999999999, 1000000000, -1000000000] _ (by decide)) (by decide) (by decide) (fun b hb => by have := O4.out.1.lt; simp [Value.ownBlock] at hb; omega)).mono ?_
      rintro e w5 ⟨t, rfl, ht, o5⟩
      have I5 := Lib.hid ((I4.out.allocI (.cells (([999999999, -999999999, 1000000000, -1000000000] : List Int).map (Value.int .i64)).toArray 2)).draw o5.draw hp')
      have O5 := Lib.hid ((O4.out.alloc _).trans o5.draw)
      have s5 : B ≤ w5.heap.size := by have := O5.out.2.size; have := HE.out; omega
      have A5 : Hid (∀ x ∈ xs ++ [t], I64 x) := fun x hx => by
        rcases List.mem_append.1 hx with hx | hx
        · exact A2.out x hx
        · simp only [List.mem_singleton] at hx; rw [hx]; unfold I64; simp at ht; omega
      clear o5 ht
      go_wp2_with (at_builtin; refine wpList_push _ (by rfl) _ _ (by rfl) B _ _ (by rfl) I5.out t _ (by rfl) (by omega) s5 ?_; intro v' w6 hn hb; have HN' := Lib.hid hn; have HB2 := Lib.hid hb; clear hn hb)
      go_ret
      exact ⟨_, _, rfl, HN'.out.mono (by have := HP.out; omega), by simp; omega, A5.out, by rw [HP.out]; exact FIN.out _ _ (O5.out.on (by rw [HE.out]; exact HB2.out) (by rw [HE.out]; exact hp'))⟩
  · go_wp2_with fail
    refine (among_any _ p (0 + 100 + 2) (O3.out.1.alloc _) (by omega) _ [100, 101, 99] (lit_ints w3 [100, 101, 99] _ (by decide)) (by decide) (by decide) (fun b hb => by have := O3.out.1.lt; simp [Value.ownBlock] at hb; omega)).mono ?_
    rintro e w4 ⟨many, rfl, hm, o4⟩
    have I4 := Lib.hid ((I3.out.allocI (.cells (([100, 101, 99] : List Int).map (Value.int .i64)).toArray 2)).draw o4.draw hp')
    have O4 := Lib.hid ((O3.out.alloc _).trans o4.draw)
    obtain ⟨c, rfl, hc⟩ : ∃ c : Nat, many = c ∧ c ≤ 101 := ⟨many.toNat, by simp at hm; omega, by simp at hm; omega⟩
    clear o4 I3 O3 hm
    go_wp2
    go_loopw [4] (fun v wr => ∃ (xs : List Int), Hid (Ints wr B v xs) ∧ Hid (xs.length ≤ 101) ∧ Hid (∀ x ∈ xs, I64 x) ∧ Hid (DrawOut w1 p (200 + 2 * xs.length) wr)) (fun v _ => 200 - (match v with | .slice _ n _ => n | _ => 0))
    case atStart => exact ⟨xs, I4.out, by have := X2.out; unfold Hid; omega, A2.out, O4.out.mono (by omega)⟩
    case round =>
      obtain ⟨ys, hI, hX, hA, hO⟩ := hrel
      have lx := hX.out
      obtain ⟨ad, cp, rfl⟩ := hI.out.len_eq
      by_cases l : ys.length < c
      · have g1 : decide (ys.length < c) = true := by simpa using l
        have g1' : decide ((ys.length : Int) < (c : Int)) = true := by simp; omega
        go_wp2_with fail
        refine (pick_any _ p (200 + 2 * ys.length) 9 hO.out.1 (by omega) (by omega)).mono ?_
        rintro e w5 ⟨t, rfl, ⟨t0, t1, _⟩, o5⟩
        have := t1 (by omega)
        have I5 := Lib.hid (hI.out.draw o5.draw hp')
        have O5 := Lib.hid (hO.out.trans o5.draw)
        have s5 : B ≤ w5.heap.size := by have := O5.out.2.size; have := HE.out; omega
        have A5 : Hid (∀ x ∈ ys ++ [t], I64 x) := fun x hx => by
          rcases List.mem_append.1 hx with hx | hx
          · exact hA.out x hx
          · simp only [List.mem_singleton] at hx; rw [hx]; exact ⟨by omega, by omega⟩
        clear o5
        go_wp2_with (at_builtin; refine wpList_push _ (by rfl) _ _ (by rfl) B _ _ (by rfl) I5.out t _ (by rfl) (by omega) s5 ?_; intro v' w6 hn hb; have HN' := Lib.hid hn; have HB2 := Lib.hid hb; clear hn hb)
        have hL := (HN'.out).len_eq
        go_roundw
        case rel => exact ⟨_, HN', by unfold Hid; simp; omega, A5, (O5.out.on (by rw [HE.out]; exact HB2.out) (by rw [HE.out]; exact hp')).mono (by simp; omega)⟩
        case measure => obtain ⟨x, y, rfl⟩ := hL; simp; omega
      · have g1 : decide (ys.length < c) = false := by simpa using l
        have g1' : decide ((ys.length : Int) < (c : Int)) = false := by simp; omega
        go_wp2_with fail
        refine (one_any _ p (200 + 2 * ys.length) 6 hO.out.1 (by omega) (by omega)).mono ?_
        rintro e w5 ⟨b, rfl, o5⟩
        have I5 := Lib.hid (hI.out.draw o5.draw hp')
        have O5 := Lib.hid (hO.out.trans o5.draw)
        clear o5
        cases b
        · go_wp2
          go_ret
          exact ⟨_, ys, rfl, I5.out.mono (by have := HP.out; omega), by omega, hA.out, by rw [HP.out]; exact FIN.out _ _ O5.out⟩
        · go_wp2_with fail
          refine (among_any _ p (200 + 2 * ys.length + 2) (O5.out.1.alloc _) (by omega) _ [999999999, -999999999, 1000000000, -1000000000] (lit_ints w5 [999999999, -999999999, 1000000000, -1000000000] _ (by decide)) (by decide) (by decide) (fun b hb => by have := O5.out.1.lt; simp [Value.ownBlock] at hb; omega)).mono ?_
          rintro e w6 ⟨t, rfl, ht, o6⟩
          have I6 := Lib.hid ((I5.out.allocI (.cells (([999999999, -999999999, 1000000000, -1000000000] : List Int).map (Value.int .i64)).toArray 2)).draw o6.draw hp')
          have O6 := Lib.hid ((O5.out.alloc _).trans o6.draw)
          have s6 : B ≤ w6.heap.size := by have := O6.out.2.size; have := HE.out; omega
          have A6 : Hid (∀ x ∈ ys ++ [t], I64 x) := fun x hx => by
            rcases List.mem_append.1 hx with hx | hx
            · exact hA.out x hx
            · simp only [List.mem_singleton] at hx; rw [hx]; unfold I64; simp at ht; omega
          clear o6 ht
          go_wp2_with (at_builtin; refine wpList_push _ (by rfl) _ _ (by rfl) B _ _ (by rfl) I6.out t _ (by rfl) (by omega) s6 ?_; intro v' w7 hn hb; have HN' := Lib.hid hn; have HB2 := Lib.hid hb; clear hn hb)
          go_ret
          exact ⟨_, _, rfl, HN'.out.mono (by have := HP.out; omega), by simp; omega, A6.out, by rw [HP.out]; exact FIN.out _ _ (O6.out.on (by rw [HE.out]; exact HB2.out) (by rw [HE.out]; exact hp'))⟩
end Go.Proofs.YtijoejejdnhknaaDoor
