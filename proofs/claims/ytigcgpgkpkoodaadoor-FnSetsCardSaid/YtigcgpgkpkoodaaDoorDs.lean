/- Draws of sets. -/
import Derived.Test.YtigcgpgkpkoodaaDoorUs
import Derived.Test.YtigcgpgkpkoodaaDoorDr
import Derived.Test.YtigcgpgkpkoodaaDoorSep
namespace Go.Proofs.YtigcgpgkpkoodaaDoor
open Go.RowKit
set_option linter.unusedVariables false

/-- 'append(xs, ys...)', both slices of the call's own. -/
theorem wpList_onto {ops : Array Oper} {rest : List Oper} {o : Oper} {a : Act} {Q : Exit → Act → World → Prop} (w : World) (hgd : o.guard = none) (s x : Operand)
    (ho : o.op = .call { callee := .builtin .append, args := #[s, x], argTypes := #[22, 22] })
    (B B' : Nat) (v u : Value) (xs ys : List Int) (hs : a.eval s = v) (h : Ints w B v xs) (hx : a.eval x = u) (h' : Ints w B' u ys)
    (hl : xs.length + ys.length < 1000000000000) (hB : B ≤ w.heap.size)
    (hK : ∀ v' w', Ints w' B v' (xs ++ ys) → Below B w w' → wpList Tryd.prog ops Q rest (a.put o.dst v') w') :
    wpList Tryd.prog ops Q (o :: rest) a w := by
  obtain ⟨i0, hi, hz0, hz1, hz2⟩ := info_parts Tryd.infoInt
  obtain ⟨e1, ⟨rfl, e2⟩ | ⟨g, cap, cur, rfl, e3, e4, e5, e6, e7, e8⟩⟩ := id h'
  · have e : ys = [] := by cases ys with | nil => rfl | cons _ _ => simp at e2
    subst e
    refine wpList_append_own_none hgd s x 22 ho B 2 i0 1 Tryd.underlying22 hi v xs.length _ hs h hx ?_
    exact hK v w (by rw [List.append_nil]; exact h) (Below.refl _ _)
  · refine wpList_append_own _ hgd s x 22 ho B 2 i0 (.int .i64 0) 1 8 Tryd.underlying22 hi hz0 hz1 hz2 rfl (by decide) v xs.length _ hs h ⟨g, 0, none⟩ ys.length cap (ys.map (Value.int .i64)) hx (by rw [List.length_map]; omega) (fun j z hj => ?_) (by intro z hz; obtain ⟨y, _, rfl⟩ := List.mem_map.1 hz; rfl) (by unfold maxLen; omega) (by omega) hB ?_
    · have hj' : j < ys.length := by
        have := (List.getElem?_eq_some_iff.1 hj).1
        simpa using this
      rw [show (⟨g, 0, none⟩ : Addr).add j = ⟨g, j, none⟩ by unfold Addr.add; split <;> simp_all, World.ownsRow.cellAt h' j (by omega)]
      exact hj
    · intro v' w' h2 hg _
      refine hK v' w' ?_ ((Below.refl _ _).grown hg hB (fun k hk => (World.ownsRow.lt h k hk).1))
      unfold Ints
      rw [List.length_append, List.map_append]
      exact h2
set_option maxHeartbeats 2000000 in
theorem drawSet (w : World) (p : Nat) (m : Int) (n : Int) (hs : Src w p m) (hm : m ≤ 100000000) (n1 : 1 ≤ n) (n2 : n ≤ 32) :
    Calls Tryd.prog 82 #[.pointer (some ⟨p, 0, none⟩), .int .i64 n] w fun e w' => ∃ v xs, e = .returned v ∧ Ints w' w.heap.size v xs ∧ xs.length ≤ 40 ∧ DrawOut w p (m + 1000) w' := by
  have HS := Lib.hid hs
  have hp := hs.lt
  have w1' := wrapk (n := n + 1) (by omega)
  have tn : decide ((0 : Int) < n) = true := by simp; omega
  have n0 : (n + 1 == 0) = false := by simp; omega
  clear hs
  go_enter Tryd.func82, Tryd.ntmps82
  go_wp2_with fail
  obtain ⟨wo, hwo⟩ : ∃ wo, w.alloc (.cells #[] 2) = wo := ⟨_, rfl⟩
  have HI : Hid (Ints wo w.heap.size (.slice (some ⟨w.heap.size, 0, none⟩) 0 0) []) := by rw [← hwo]; exact World.ownsRow_made w #[] 0 (Nat.le_refl _) (by decide) rfl
  have O0 : Hid (DrawOut w p m wo) := by rw [← hwo]; exact (DrawOut.refl HS.out).alloc _
  rw [hwo]
  clear hwo
  obtain ⟨B, hB⟩ : ∃ B, w.heap.size = B := ⟨_, rfl⟩
  rw [hB] at HI hp ⊢
  have HE := Lib.hid hB
  clear hB
  refine (pick_any _ p m (n + 1) O0.out.1 (by omega) (by omega)).mono ?_
  rintro e w1 ⟨many, rfl, ⟨q0, q1, _⟩, o1⟩
  have hq := q1 (by omega)
  have O1 := Lib.hid (O0.out.trans o1.draw)
  have I1 := Lib.hid (HI.out.draw o1.draw hp)
  clear o1 q1 HI O0
  go_wp2_with fail
  refine (one_any _ p (m + 2) 3 O1.out.1 (by omega) (by omega)).mono ?_
  rintro e w2 ⟨b, rfl, o2⟩
  have O2 := Lib.hid (O1.out.trans o2.draw)
  have I2 := Lib.hid (I1.out.draw o2.draw hp)
  clear o2 O1 I1
  have LOOP : ∀ (many : Int) (w3 : World) (k : Int), 0 ≤ many → many ≤ 32 → DrawOut w p (m + 6) w3 → Ints w3 B (.slice (some ⟨B, 0, none⟩) 0 0) [] → True := fun _ _ _ _ _ _ _ => trivial
  clear LOOP
  cases b
  · have M : ∃ c : Nat, many = c ∧ c ≤ 32 := ⟨many.toNat, by omega, by omega⟩
    obtain ⟨c, rfl, hc⟩ := M
    clear q0 hq
    go_wp2_with fail
    go_loopw [5, 7] (fun v i wr => ∃ (j : Nat) (xs : List Int), j ≤ c ∧ i = .int .i64 j ∧ Hid (Ints wr B v xs) ∧ Hid (xs.length ≤ j) ∧ Hid (DrawOut w p (m + 6 + 2 * j) wr)) (fun _ i _ => c - (intOf i).toNat)
    case atStart => exact ⟨0, [], by omega, rfl, I2.out, Nat.le_refl _, O2.out.mono (by omega)⟩
    case round =>
      obtain ⟨j, xs, hj, rfl, hI, hX, hO⟩ := hrel
      by_cases l : j < c
      · have g1 : decide (j < c) = true := by simpa using l
        have g1' : decide ((j : Int) < (c : Int)) = true := by simp; omega
        have w3 := wrapk (n := (j : Int) + 1) (by omega)
        have hlen : xs.length ≤ 1000000 := by have := hX.out; omega
        go_wp2_with fail
        refine (pick_any _ p (m + 6 + 2 * j) n hO.out.1 (by omega) (by omega)).mono ?_
        rintro e w4 ⟨t, rfl, _, o4⟩
        have I4 := Lib.hid (hI.out.draw o4.draw hp)
        have O4 := Lib.hid (hO.out.trans o4.draw)
        clear o4
        go_wp2_with fail
        refine (sput _ _ xs t I4.out.at hlen).mono ?_
        rintro e w5 ⟨v5, rfl, i5, b5⟩
        have s5 : B ≤ w4.heap.size := by have := O4.out.2.size; have := HE.out; omega
        have I5 := Lib.hid (i5.mono s5)
        have O5 := Lib.hid (O4.out.on (b5.mono (by have := O4.out.2.size; exact this)) (by rw [HE.out]; exact hp))
        have L5 := Lib.hid (show (put xs t).length ≤ j + 1 by have := put_len xs t; have := hX.out; omega)
        clear i5 b5
        go_wp2
        go_roundw
        case rel => exact ⟨j + 1, _, by omega, by go_num, I5, L5, O5.out.mono (by omega)⟩
        case measure => simp [intOf]; omega
      · have g1 : decide (j < c) = false := by simpa using l
        have g1' : decide ((j : Int) < (c : Int)) = false := by simp; omega
        go_wp2
        go_ret
        exact ⟨_, xs, rfl, by rw [HE.out]; exact hI.out, by have := hX.out; omega, hO.out.mono (by omega)⟩
  · go_wp2_with fail
    refine (pick_any _ p (m + 2 + 2) 4 O2.out.1 (by omega) (by omega)).mono ?_
    rintro e w3 ⟨q, rfl, ⟨r0, r1, _⟩, o3⟩
    have hr := r1 (by omega)
    have O3 := Lib.hid (O2.out.trans o3.draw)
    have I3 := Lib.hid (I2.out.draw o3.draw hp)
    clear o3 O2 I2 r1
    have M : ∃ c : Nat, q.tmod (n + 1) = c ∧ c ≤ 32 := ⟨(q % (n + 1)).toNat, by
      rw [Int.tmod_eq_emod_of_nonneg r0]
      have := Int.emod_nonneg q (show n + 1 ≠ 0 by omega)
      omega, by
      have := Int.emod_nonneg q (show n + 1 ≠ 0 by omega)
      have := Int.emod_lt_of_pos q (show 0 < n + 1 by omega)
      omega⟩
    obtain ⟨c, hcq, hc⟩ := M
    have w4' := wrapk (n := (c : Int)) (by omega)
    clear q0 hq
    go_wp2_with fail
    go_loopw [5, 7] (fun v i wr => ∃ (j : Nat) (xs : List Int), j ≤ c ∧ i = .int .i64 j ∧ Hid (Ints wr B v xs) ∧ Hid (xs.length ≤ j) ∧ Hid (DrawOut w p (m + 6 + 2 * j) wr)) (fun _ i _ => c - (intOf i).toNat)
    case atStart => exact ⟨0, [], by omega, rfl, I3.out, Nat.le_refl _, O3.out.mono (by omega)⟩
    case round =>
      obtain ⟨j, xs, hj, rfl, hI, hX, hO⟩ := hrel
      by_cases l : j < c
      · have g1 : decide (j < c) = true := by simpa using l
        have g1' : decide ((j : Int) < (c : Int)) = true := by simp; omega
        have w3 := wrapk (n := (j : Int) + 1) (by omega)
        have hlen : xs.length ≤ 1000000 := by have := hX.out; omega
        go_wp2_with fail
        refine (pick_any _ p (m + 6 + 2 * j) n hO.out.1 (by omega) (by omega)).mono ?_
        rintro e w4 ⟨t, rfl, _, o4⟩
        have I4 := Lib.hid (hI.out.draw o4.draw hp)
        have O4 := Lib.hid (hO.out.trans o4.draw)
        clear o4
        go_wp2_with fail
        refine (sput _ _ xs t I4.out.at hlen).mono ?_
        rintro e w5 ⟨v5, rfl, i5, b5⟩
        have s5 : B ≤ w4.heap.size := by have := O4.out.2.size; have := HE.out; omega
        have I5 := Lib.hid (i5.mono s5)
        have O5 := Lib.hid (O4.out.on (b5.mono (by have := O4.out.2.size; exact this)) (by rw [HE.out]; exact hp))
        have L5 := Lib.hid (show (put xs t).length ≤ j + 1 by have := put_len xs t; have := hX.out; omega)
        clear i5 b5
        go_wp2
        go_roundw
        case rel => exact ⟨j + 1, _, by omega, by go_num, I5, L5, O5.out.mono (by omega)⟩
        case measure => simp [intOf]; omega
      · have g1 : decide (j < c) = false := by simpa using l
        have g1' : decide ((j : Int) < (c : Int)) = false := by simp; omega
        go_wp2
        go_ret
        exact ⟨_, xs, rfl, by rw [HE.out]; exact hI.out, by have := hX.out; omega, hO.out.mono (by omega)⟩

set_option maxHeartbeats 2000000 in
theorem drawBad (w : World) (p : Nat) (m : Int) (n : Int) (hs : Src w p m) (hm : m ≤ 10000000) (n1 : 1 ≤ n) (n2 : n ≤ 32) :
    Calls Tryd.prog 67 #[.pointer (some ⟨p, 0, none⟩), .int .i64 n] w fun e w' => ∃ v xs, e = .returned v ∧ Ints w' w.heap.size v xs ∧ xs.length ≤ 41 ∧ DrawOut w p (m + 1010) w' := by
  have HS := Lib.hid hs
  have hp := hs.lt
  clear hs
  go_enter Tryd.func67, Tryd.ntmps67
  go_wp2_with fail
  refine (drawSet _ p m n HS.out (by omega) n1 n2).mono ?_
  rintro e w1 ⟨v, xs, rfl, i1, hx, o1⟩
  have O1 := Lib.hid o1
  have I1 := Lib.hid i1
  have HX := Lib.hid hx
  obtain ⟨B, hB⟩ : ∃ B, w.heap.size = B := ⟨_, rfl⟩
  rw [hB] at I1 hp
  have HE := Lib.hid hB
  clear i1 o1 hx hB
  go_wp2_with fail
  refine (pick_any _ p (m + 1000) 8 O1.out.1 (by omega) (by omega)).mono ?_
  rintro e w2 ⟨k, rfl, _, o2⟩
  have O2 := Lib.hid (O1.out.trans o2.draw)
  have I2 := Lib.hid (I1.out.draw o2.draw hp)
  have s2 : B ≤ w2.heap.size := by have := O2.out.2.size; have := HE.out; omega
  have p2 := O2.out.1.lt
  clear o2 O1 I1
  by_cases e0 : k = 0
  · subst e0
    go_wp2_with fail
    refine (among_any _ p (m + 1000 + 2) (O2.out.1.alloc _) (by omega) _ [-1, 0, 31, 32, n] (lit_ints w2 [-1, 0, 31, 32, n] _ (by simp)) (by simp) (by simp) (fun b hb => by simp [Value.ownBlock] at hb; omega)).mono ?_
    rintro e w3 ⟨u, rfl, _, o3⟩
    have O3 := Lib.hid ((O2.out.alloc _).trans o3.draw)
    have I3 := Lib.hid (Ints.draw (World.ownsRow.alloc I2.out _) o3.draw hp)
    have s3 : B ≤ w3.heap.size := by have := O3.out.2.size; have := HE.out; omega
    have hlen : xs.length < 1000000000000 := by have := HX.out; omega
    clear o3
    go_wp2_with (at_builtin; refine wpList_push _ (by rfl) _ _ (by rfl) B _ _ (by rfl) I3.out u _ (by rfl) hlen s3 ?_; intro v' w4 hn hb; have HN' := Lib.hid hn; have HB2 := Lib.hid hb; clear hn hb)
    go_ret
    exact ⟨_, _, rfl, by rw [HE.out]; exact HN'.out, by rw [List.length_append]; have := HX.out; simp; omega, (O3.out.on (by rw [HE.out]; exact HB2.out) (by rw [HE.out]; exact hp)).mono (by omega)⟩
  · have t0 : (k == 0) = false := by simpa using e0
    by_cases e1 : k = 1
    · subst e1
      clear e0 t0
      go_wp2_with fail
      refine (among_any _ p (m + 1000 + 2) (O2.out.1.alloc _) (by omega) _ [-1, 0, 5, 32] (lit_ints w2 [-1, 0, 5, 32] _ (by decide)) (by decide) (by decide) (fun b hb => by simp [Value.ownBlock] at hb; omega)).mono ?_
      rintro e w3 ⟨u, rfl, _, o3⟩
      have O3 := Lib.hid ((O2.out.alloc _).trans o3.draw)
      have I3 := Lib.hid (Ints.draw (World.ownsRow.alloc I2.out _) o3.draw hp)
      have s3 : B ≤ w3.heap.size := by have := O3.out.2.size; have := HE.out; omega
      have hlen : xs.length ≤ 1000 := by have := HX.out; omega
      have L3 : Hid (Ints (w3.alloc (.cells #[.int .i64 u] 2)) B (.slice (some ⟨w3.heap.size, 0, none⟩) 1 1) [u]) := World.ownsRow_lit w3 #[.int .i64 u] 1 s3 (by decide) rfl
      have I3' : Hid (Ints (w3.alloc (.cells #[.int .i64 u] 2)) B v xs) := World.ownsRow.alloc I3.out _
      have B3 : Hid (Below B w3 (w3.alloc (.cells #[.int .i64 u] 2))) := (Below.refl _ _).alloc s3 _
      clear o3
      go_wp2_with (at_builtin; refine wpList_onto _ (by rfl) _ _ (by rfl) B B _ _ _ _ (by rfl) L3.out (by rfl) I3'.out (by simp; omega) (by simp; omega) ?_; intro v' w4 hn hb; have HN' := Lib.hid hn; have HB2 := Lib.hid (B3.out.trans hb); clear hn hb)
      go_ret
      exact ⟨_, _, rfl, by rw [HE.out]; exact HN'.out, by rw [List.length_append]; have := HX.out; simp; omega, (O3.out.on (by rw [HE.out]; exact HB2.out) (by rw [HE.out]; exact hp)).mono (by omega)⟩
    · have t1 : (k == 1) = false := by simpa using e1
      clear e0 e1
      go_wp2
      go_ret
      exact ⟨_, _, rfl, by rw [HE.out]; exact I2.out, by have := HX.out; omega, O2.out.mono (by omega)⟩

set_option maxHeartbeats 2000000 in
theorem drawTwo (w : World) (p : Nat) (m : Int) (hs : Src w p m) (hm : m ≤ 1000000) :
    Calls Tryd.prog 47 #[.pointer (some ⟨p, 0, none⟩)] w fun e w' => ∃ u v xs ys, e = .returned (.tuple #[u, v]) ∧ Ints w' w.heap.size u xs ∧ Ints w' w.heap.size v ys ∧ xs.length ≤ 41 ∧ ys.length ≤ 41 ∧ DrawOut w p (m + 3000) w' := by
  have HS := Lib.hid hs
  have hp := hs.lt
  clear hs
  go_enter Tryd.func47, Tryd.ntmps47
  go_wp2_with fail
  refine (among_any _ p m (HS.out.alloc _) (by omega) _ [3, 6, 12, 32] (lit_ints w [3, 6, 12, 32] _ (by decide)) (by decide) (by decide) (fun b hb => by simp [Value.ownBlock] at hb; omega)).mono ?_
  rintro e w1 ⟨n, rfl, hn, o1⟩
  have n12 : 1 ≤ n ∧ n ≤ 32 := by simp at hn; omega
  have O1 := Lib.hid (((DrawOut.refl HS.out).alloc _).trans o1.draw)
  obtain ⟨B, hB⟩ : ∃ B, w.heap.size = B := ⟨_, rfl⟩
  rw [hB] at hp
  have HE := Lib.hid hB
  clear o1 hn hB
  have s1 : B ≤ w1.heap.size := by have := O1.out.2.size; have := HE.out; omega
  obtain ⟨n1, n2⟩ := n12
  go_wp2_with fail
  refine (drawBad _ p (m + 2) n O1.out.1 (by omega) n1 n2).mono ?_
  rintro e w2 ⟨u, xs, rfl, i2, hx, o2⟩
  have O2 := Lib.hid (O1.out.trans o2)
  have I2 := Lib.hid (i2.mono s1)
  have HX := Lib.hid hx
  have s2 : B ≤ w2.heap.size := by have := O2.out.2.size; have := HE.out; omega
  clear i2 o2 hx
  go_wp2_with fail
  refine (drawBad _ p (m + 2 + 1010) n O2.out.1 (by omega) n1 n2).mono ?_
  rintro e w3 ⟨v, ys, rfl, i3, hy, o3⟩
  have O3 := Lib.hid (O2.out.trans o3)
  have I3 := Lib.hid (i3.mono s2)
  have I2' := Lib.hid (I2.out.draw o3 hp)
  have HY := Lib.hid hy
  clear i3 o3 hy
  go_wp2
  go_ret2
  exact ⟨_, _, xs, ys, rfl, by rw [HE.out]; exact I2'.out, by rw [HE.out]; exact I3.out, HX.out, HY.out, O3.out.mono (by omega)⟩

theorem drawUnion (w : World) (a : Option Addr) (len cap : Nat) (zs : List Int) (h : IsRow .u8 w a len cap zs) (hl : len ≤ 1048576) :
    Calls Tryd.prog 22 #[.slice a len cap] w fun e w' => ∃ u v xs ys, e = .returned (.tuple #[u, v]) ∧ Ints w' w.heap.size u xs ∧ Ints w' w.heap.size v ys ∧ xs.length ≤ 41 ∧ ys.length ≤ 41 ∧ Below w.heap.size w w' := by
  have H := Lib.hid h
  clear h
  go_enter Tryd.func22, Tryd.ntmps22
  go_wp2_with fail
  refine (from_any _ a len cap zs H.out hl).mono ?_
  rintro e w1 ⟨rfl, s1, b1⟩
  have B1 := Lib.hid b1
  have S1 := Lib.hid s1
  have hp' : w.heap.size ≤ w1.heap.size := Nat.le_of_lt s1.lt
  clear s1 b1
  go_wp2_with fail
  refine (drawTwo _ w.heap.size 0 S1.out (by omega)).mono ?_
  rintro e w2 ⟨u, v, xs, ys, rfl, i2, j2, hx, hy, o2⟩
  have I2 := Lib.hid (i2.mono hp')
  have J2 := Lib.hid (j2.mono hp')
  have HX := Lib.hid hx
  have HY := Lib.hid hy
  have O2 := Lib.hid (B1.out.trans (o2.below hp'))
  clear i2 j2 hx hy o2
  go_wp2
  go_ret2
  exact ⟨_, _, xs, ys, rfl, I2.out, J2.out, HX.out, HY.out, O2.out⟩
end Go.Proofs.YtigcgpgkpkoodaaDoor
