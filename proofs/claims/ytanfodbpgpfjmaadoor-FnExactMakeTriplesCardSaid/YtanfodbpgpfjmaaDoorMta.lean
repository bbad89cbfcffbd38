/- The blocks of the made systems: the program's pieces. -/
import Derived.Test.YtanfodbpgpfjmaaDoorDpi
import Derived.Test.YtanfodbpgpfjmaaDoorApa
namespace Go.Proofs.YtanfodbpgpfjmaaDoor
open Go.RowKit Go.Shelf
set_option linter.unusedVariables false
set_option linter.unusedSimpArgs false

theorem iunE (x y : Nat) (w : World) (hx : x < 4294967296) (hy : y < 4294967296) :
    Calls Tryd.prog 102 #[.int .u32 x, .int .u32 y] w fun e w' => e = .returned (.int .u32 ((x ||| y : Nat) : Int)) ∧ w' = w := by
  refine (iunion x y w hx hy).mono ?_
  rintro e w' ⟨z, rfl, hz, rfl⟩
  have : z = x ||| y := Nat.eq_of_testBit_eq fun i => by rw [hz.2 i, Nat.testBit_or]
  exact ⟨by rw [this], rfl⟩
def trip (x y z : Nat) : Nat := (2 ^ x ||| 2 ^ y) ||| 2 ^ z
theorem or32 {x y : Nat} (hx : x < 4294967296) (hy : y < 4294967296) : x ||| y < 4294967296 := Nat.or_lt_two_pow (n := 32) hx hy
theorem trip32 {x y z : Nat} (hx : x < 32) (hy : y < 32) (hz : z < 32) : trip x y z < 4294967296 := or32 (or32 (pow_lt32 hx) (pow_lt32 hy)) (pow_lt32 hz)
set_option maxRecDepth 100000 in
theorem itriple (x y z : Nat) (hx : x < 32) (hy : y < 32) (hz : z < 32) (w : World) :
    Calls Tryd.prog 63 #[.int .i64 x, .int .i64 y, .int .i64 z] w fun e w' => e = .returned (.int .u32 ((trip x y z : Nat) : Int)) ∧ w' = w := by
  have H1 := Lib.hid (isingle x hx w)
  have H2 := Lib.hid (isingle y hy w)
  have H3 := Lib.hid (iunE (2 ^ x) (2 ^ y) w (pow_lt32 hx) (pow_lt32 hy))
  have H4 := Lib.hid (isingle z hz w)
  have H5 := Lib.hid (iunE (2 ^ x ||| 2 ^ y) (2 ^ z) w (or32 (pow_lt32 hx) (pow_lt32 hy)) (pow_lt32 hz))
  have HV : Hid ((2 ^ x ||| 2 ^ y) ||| 2 ^ z = trip x y z) := rfl
  obtain ⟨p, hp⟩ : ∃ p, 2 ^ x = p := ⟨_, rfl⟩
  obtain ⟨q, hq⟩ : ∃ q, 2 ^ y = q := ⟨_, rfl⟩
  obtain ⟨r, hr⟩ : ∃ r, 2 ^ z = r := ⟨_, rfl⟩
  rw [hp, hq, hr] at HV H5
  rw [hp, hq] at H3
  rw [hp] at H1
  rw [hq] at H2
  rw [hr] at H4
  obtain ⟨pq, hpq⟩ : ∃ t, p ||| q = t := ⟨_, rfl⟩
  rw [hpq] at H3 H5 HV
  clear hp hq hr hpq
  go_enter Tryd.func63, Tryd.ntmps63
  go_wp2_with fail
  refine H1.out.mono ?_
  rintro e w' ⟨rfl, rfl⟩
  go_wp2_with fail
  refine H2.out.mono ?_
  rintro e w' ⟨rfl, rfl⟩
  go_wp2_with fail
  refine H3.out.mono ?_
  rintro e w' ⟨rfl, rfl⟩
  go_wp2_with fail
  refine H4.out.mono ?_
  rintro e w' ⟨rfl, rfl⟩
  go_wp2_with fail
  refine H5.out.mono ?_
  rintro e w' ⟨rfl, rfl⟩
  go_wp2
  go_ret
  exact ⟨by rw [← HV.out]; rfl, rfl⟩

/-- The point x of a layer. -/
def pt (n x k : Nat) : Nat := x + n * (k % 3)
theorem pt_lt {n x k : Nat} (hn : n ≤ 9) (hx : x < n) : pt n x k < 27 := by
  unfold pt
  have h : n * (k % 3) ≤ n * 2 := Nat.mul_le_mul_left n (by omega)
  omega
set_option maxRecDepth 100000 in
theorem ipoint (n x k : Nat) (hn : n ≤ 9) (hx : x < n) (hk : k ≤ 4) (w : World) :
    Calls Tryd.prog 64 #[.agg #[.int .i64 n], .int .i64 x, .int .i64 k] w fun e w' => e = .returned (.int .i64 ((pt n x k : Nat) : Int)) ∧ Below w.heap.size w w' := by
  obtain ⟨B, hB⟩ : ∃ B, w.heap.size = B := ⟨_, rfl⟩
  obtain ⟨w1, hw1⟩ : ∃ w1, w.alloc (.cells #[.int .i64 n] 82) = w1 := ⟨_, rfl⟩
  have b1 : Below B w w1 := by rw [← hw1]; exact (Below.refl _ _).alloc (by omega) _
  have A1 : w1.heap[B]? = some (.cells #[.int .i64 n] 82 (0, 0)) := by rw [← hw1, ← hB]; exact heap_alloc_new _ _
  have c0 : w1.cell? ⟨B, 0, none⟩ = some (.int .i64 n) := by rw [cell_of_row w1 B 0 _ _ _ A1]; rfl
  have hr : Int.tmod (k : Int) 3 = ((k % 3 : Nat) : Int) := rfl
  have p27 := pt_lt (k := k) hn hx
  have HV : Hid (((x + n * (k % 3) : Nat) : Int) = ((pt n x k : Nat) : Int)) := rfl
  have h0 : n * (k % 3) ≤ 18 := by
    have h : n * (k % 3) ≤ 9 * 2 := Nat.mul_le_mul hn (by omega)
    omega
  obtain ⟨q, hq⟩ : ∃ q, k % 3 = q := ⟨_, rfl⟩
  rw [hq] at hr HV h0
  have q3 : q < 3 := by omega
  obtain ⟨p, hp⟩ : ∃ p, n * q = p := ⟨_, rfl⟩
  have hm : (n : Int) * (q : Int) = (p : Int) := by rw [← hp, Int.natCast_mul]
  rw [hp] at HV h0
  have w3 := IntWalk.i64_in (q : Int) (by omega)
  have w4 := IntWalk.i64_in (p : Int) (by omega)
  have w5 := IntWalk.i64_in ((x : Int) + (p : Int)) (by omega)
  have HB := Lib.hid hB
  have B1 := Lib.hid b1
  clear b1 A1 p27 hq hp
  go_enter Tryd.func64, Tryd.ntmps64
  go_wp2
  try rw [hw1]
  go_ret
  exact ⟨by rw [← HV.out]; rfl, by rw [HB.out]; exact B1.out⟩

/-- 'sets = append(sets, s)' at one operation of a region that draws. -/
theorem wp_pushU {o : Oper} {a : Act} {K : Act → World → Prop} {Q : Exit → Act → World → Prop} (w : World) (s x : Operand)
    (ho : o.op = .call { callee := .builtin .append, args := #[s, x], argTypes := #[45, 45] })
    (B : Nat) (v : Value) (L : List Nat) (hs : a.eval s = v) (h : Us w B v L) (y : Nat) (T : TypeId) (hx : a.eval x = .slice (some ⟨w.heap.size, 0, none⟩) 1 1)
    (hl : L.length < 1000000000000) (hB : B ≤ w.heap.size)
    (hK : ∀ v' w', Us w' B v' (L ++ [y]) → Below B w w' → K (a.put o.dst v') w') :
    o.wp Tryd.prog a (w.alloc (.cells #[.int .u32 (y : Nat)] T)) K Q := by
  obtain ⟨i0, hi0, hz0, hz1, hz2⟩ := info_parts Tryd.infoSet
  refine wp_append_at _ s x 45 ho B 53 i0 (.int .u32 0) 1 4 Tryd.underlying45 hi0 hz0 hz1 hz2 rfl (by decide) v L.length _ hs (World.ownsRow.alloc h _) ⟨w.heap.size, 0, none⟩ 1 1 [.int .u32 (y : Nat)] hx rfl ?c1 ?c2 ?c3 ?c4 ?c5 ?_
  case c1 =>
    intro j u hj
    match j, hj with
    | 0, hj => simp at hj; subst hj; simp [Addr.add]
  case c2 => intro u hu; simp at hu; subst hu; rfl
  case c3 => unfold maxLen; omega
  case c4 => omega
  case c5 => simp; omega
  intro v' w' h' hg hat
  refine hK v' w' ?_ ?_
  · unfold Us
    rw [List.length_append, List.map_append]
    exact h'
  · exact ((Below.refl _ _).alloc hB _).grown hg (by simp; omega) (fun k hk => (World.ownsRow.lt h k hk).1)

set_option maxRecDepth 100000 in
set_option maxHeartbeats 1000000 in
theorem iupright (n x : Nat) (hn : n ≤ 9) (hx : x < n) (w : World) :
    Calls Tryd.prog 62 #[.agg #[.int .i64 n], .int .i64 x] w fun e w' => e = .returned (.int .u32 ((trip (pt n x 0) (pt n x 1) (pt n x 2) : Nat) : Int)) ∧ Below w.heap.size w w' := by
  obtain ⟨B, hB⟩ : ∃ B, w.heap.size = B := ⟨_, rfl⟩
  obtain ⟨w1, hw1⟩ : ∃ w1, w.alloc (.cells #[.int .i64 n] 82) = w1 := ⟨_, rfl⟩
  have b1 : Below B w w1 := by rw [← hw1]; exact (Below.refl _ _).alloc (by omega) _
  have z1 : w1.heap.size = B + 1 := by rw [← hw1, World.size_alloc, hB]
  have A1 : w1.heap[B]? = some (.cells #[.int .i64 n] 82 (0, 0)) := by rw [← hw1, ← hB]; exact heap_alloc_new _ _
  have KC : Hid (∀ W, Below (B + 1) w1 W → W.cell? ⟨B, 0, none⟩ = some (.int .i64 n)) := fun W h => by
    rw [h.cell (p := ⟨B, 0, none⟩) (Nat.lt_succ_self B), cell_of_row w1 B 0 _ _ _ A1]; rfl
  have HP : Hid (∀ k W, k ≤ 4 → Below (B + 1) w1 W → Calls Tryd.prog 64 #[.agg #[.int .i64 n], .int .i64 x, .int .i64 ((k : Nat) : Int)] W fun e w' => e = .returned (.int .i64 ((pt n x k : Nat) : Int)) ∧ Below (B + 1) w1 w') := fun k W hk h =>
    (ipoint n x k hn hx hk W).mono fun e w' ⟨h1, h2⟩ => ⟨h1, h.trans (h2.mono (by have := h.size; omega))⟩
  have HP0 := Lib.hid (fun W h => HP.out 0 W (by omega) h)
  have HP1 := Lib.hid (fun W h => HP.out 1 W (by omega) h)
  have HP2 := Lib.hid (fun W h => HP.out 2 W (by omega) h)
  have HT := Lib.hid (fun W => itriple (pt n x 0) (pt n x 1) (pt n x 2) (by have := pt_lt (k := 0) hn hx; omega) (by have := pt_lt (k := 1) hn hx; omega) (by have := pt_lt (k := 2) hn hx; omega) W)
  obtain ⟨t0, h0⟩ : ∃ t, pt n x 0 = t := ⟨_, rfl⟩
  obtain ⟨t1, h1⟩ : ∃ t, pt n x 1 = t := ⟨_, rfl⟩
  obtain ⟨t2, h2⟩ : ∃ t, pt n x 2 = t := ⟨_, rfl⟩
  simp only [h0] at HP0
  simp only [h1] at HP1
  simp only [h2] at HP2
  simp only [h0, h1, h2] at HT ⊢
  have HB := Lib.hid hB
  have BB : Hid (∀ W, Below (B + 1) w1 W → Below B w W) := fun W h => b1.trans (h.mono (by omega))
  have BD : Hid (Below (B + 1) w1 w1.drew) := (Below.refl _ _).drew
  clear A1 h0 h1 h2 HP b1
  go_enter Tryd.func62, Tryd.ntmps62
  go_wp2
  try rw [hw1]
  refine wp_region_held_drew (S := fun w' => w'.cell? ⟨B, 0, none⟩ = some (.int .i64 n)) (by kernel_rfl) (KC.out _ BD.out) (fun hHeld => ?_)
  refine wpAnyH_take (i := 0) (oi := { dst := some 5, op := Op.load 82 (Operand.tmp 2), type := 82, pos := "l11_triples.go:98", after := #[], guard := none }) (v := ?_) rfl (by kernel_rfl) (by kernel_rfl) (by kernel_rfl) (fun _ _ _ h => h) (Or.inl ⟨by rfl, ?_⟩) (by assumption) ?_
  rotate_left
  · intro w hSw; (try dsimp only at hSw); go_simp
    try with_reducible rfl
  simp only [Act.put, List.setIfInBounds_toArray, List.set_cons_zero, List.set_cons_succ]
  refine wpAnyH_take (i := 1) (oi := { dst := some 6, op := Op.move (Operand.tmp 1), type := 2, pos := "l11_triples.go:98", after := #[], guard := none }) (v := ?_) rfl (by kernel_rfl) (by kernel_rfl) (by kernel_rfl) (fun _ _ _ h => h) (Or.inl ⟨by rfl, ?_⟩) (by assumption) ?_
  rotate_left
  · intro w hSw; (try dsimp only at hSw); go_simp
    try with_reducible rfl
  simp only [Act.put, List.setIfInBounds_toArray, List.set_cons_zero, List.set_cons_succ]
  refine wpAnyH_take (i := 3) (oi := { dst := some 8, op := Op.load 82 (Operand.tmp 2), type := 82, pos := "l11_triples.go:98", after := #[], guard := none }) (v := ?_) rfl (by kernel_rfl) (by kernel_rfl) (by kernel_rfl) (fun _ _ _ h => h) (Or.inl ⟨by rfl, ?_⟩) (by assumption) ?_
  rotate_left
  · intro w hSw; (try dsimp only at hSw); go_simp
    try with_reducible rfl
  simp only [Act.put, List.setIfInBounds_toArray, List.set_cons_zero, List.set_cons_succ]
  refine wpAnyH_take (i := 4) (oi := { dst := some 9, op := Op.move (Operand.tmp 1), type := 2, pos := "l11_triples.go:98", after := #[], guard := none }) (v := ?_) rfl (by kernel_rfl) (by kernel_rfl) (by kernel_rfl) (fun _ _ _ h => h) (Or.inl ⟨by rfl, ?_⟩) (by assumption) ?_
  rotate_left
  · intro w hSw; (try dsimp only at hSw); go_simp
    try with_reducible rfl
  simp only [Act.put, List.setIfInBounds_toArray, List.set_cons_zero, List.set_cons_succ]
  refine wpAnyH_take (i := 6) (oi := { dst := some 11, op := Op.load 82 (Operand.tmp 2), type := 82, pos := "l11_triples.go:98", after := #[], guard := none }) (v := ?_) rfl (by kernel_rfl) (by kernel_rfl) (by kernel_rfl) (fun _ _ _ h => h) (Or.inl ⟨by rfl, ?_⟩) (by assumption) ?_
  rotate_left
  · intro w hSw; (try dsimp only at hSw); go_simp
    try with_reducible rfl
  simp only [Act.put, List.setIfInBounds_toArray, List.set_cons_zero, List.set_cons_succ]
  refine wpAnyH_take (i := 7) (oi := { dst := some 12, op := Op.move (Operand.tmp 1), type := 2, pos := "l11_triples.go:98", after := #[], guard := none }) (v := ?_) rfl (by kernel_rfl) (by kernel_rfl) (by kernel_rfl) (fun _ _ _ h => h) (Or.inl ⟨by rfl, ?_⟩) (by assumption) ?_
  rotate_left
  · intro w hSw; (try dsimp only at hSw); go_simp
    try with_reducible rfl
  simp only [Act.put, List.setIfInBounds_toArray, List.set_cons_zero, List.set_cons_succ]
  refine wpAnyH_ready (rs := [2]) (by kernel_rfl) (by simp) ?_
  refine AllReadyH.cons rfl (fun K' hK' => ?_) AllReadyH.nil
  go_simp
  go_wp2_with fail
  refine (HP0.out _ BD.out).mono ?_
  rintro e b2w ⟨rfl, b2⟩
  have b2 := Lib.hid b2
  refine hK'.out _ _ (KC.out _ b2.out) (fun hHeld => ?_)
  clear hK' K'
  refine wpAnyH_ready (rs := [5]) (by kernel_rfl) (by simp) ?_
  refine AllReadyH.cons rfl (fun K' hK' => ?_) AllReadyH.nil
  go_simp
  go_wp2_with fail
  refine (HP1.out _ b2.out).mono ?_
  rintro e b3w ⟨rfl, b3⟩
  have b3 := Lib.hid b3
  refine hK'.out _ _ (KC.out _ b3.out) (fun hHeld => ?_)
  clear hK' K'
  refine wpAnyH_ready (rs := [8]) (by kernel_rfl) (by simp) ?_
  refine AllReadyH.cons rfl (fun K' hK' => ?_) AllReadyH.nil
  go_simp
  go_wp2_with fail
  refine (HP2.out _ b3.out).mono ?_
  rintro e b4w ⟨rfl, b4⟩
  have b4 := Lib.hid b4
  refine hK'.out _ _ (KC.out _ b4.out) (fun hHeld => ?_)
  clear hK' K'
  refine wpAnyH_ready (rs := [9]) (by kernel_rfl) (by simp) ?_
  refine AllReadyH.cons rfl (fun K' hK' => ?_) AllReadyH.nil
  go_simp
  go_wp2_with fail
  refine (HT.out _).mono ?_
  rintro e w9 ⟨rfl, ew⟩
  have ew := ew.symm
  subst ew
  refine hK'.out _ _ (KC.out _ b4.out) (fun hHeld => ?_)
  clear hK' K'
  refine wpAnyH_take (i := 10) (oi := { dst := some 4, op := Op.assign (Operand.tmp 14), type := 53, pos := "l11_triples.go:98", after := #[{ on := 9, ground := Ground.data }, { on := 9, ground := Ground.chain }, { on := 0, ground := Ground.phase }, { on := 1, ground := Ground.phase }, { on := 2, ground := Ground.phase }, { on := 3, ground := Ground.phase }, { on := 4, ground := Ground.phase }, { on := 5, ground := Ground.phase }, { on := 6, ground := Ground.phase }, { on := 7, ground := Ground.phase }, { on := 8, ground := Ground.phase }, { on := 9, ground := Ground.phase }], guard := none }) (v := ?_) rfl (by kernel_rfl) (by kernel_rfl) (by kernel_rfl) (fun _ _ _ h => h) (Or.inl ⟨by rfl, ?_⟩) (by assumption) ?_
  rotate_left
  · intro w hSw; (try dsimp only at hSw); go_simp
    try with_reducible rfl
  simp only [Act.put, List.setIfInBounds_toArray, List.set_cons_zero, List.set_cons_succ]
  refine wpAnyH_done (by kernel_rfl) ?_ _
  clear hHeld
  go_wp2
  go_ret
  exact ⟨rfl, by first | exact BB.out _ b4.out | (rw [HB.out]; exact BB.out _ b4.out)⟩
end Go.Proofs.YtanfodbpgpfjmaaDoor
