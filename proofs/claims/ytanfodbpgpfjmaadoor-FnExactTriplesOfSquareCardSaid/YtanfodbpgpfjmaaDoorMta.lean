/- The blocks of the made systems: the program's pieces. -/
import Derived.Test.YtanfodbpgpfjmaaDoorDpi
import Derived.Test.YtanfodbpgpfjmaaDoorApa
namespace Go.Proofs.YtanfodbpgpfjmaaDoor
open Go.RowKit Go.Shelf
set_option linter.unusedVariables false
set_option linter.unusedSimpArgs false

theorem iunE (x y : Nat) (w : World) (hx : x < 4294967296) (hy : y < 4294967296) :
    Calls Tryd.prog 102 #[.int .u32 x, .int .u32 y] w fun e w' => e = .returned (.int .u32 ((x ||| y : Nat) : Int)) ∧ w' = w := by
  refine (iunion x y w hx hy).mono ?_
  rintro e w' ⟨z, rfl, hz, rfl⟩
  have : z = x ||| y := Nat.eq_of_testBit_eq fun i => by rw [hz.2 i, Nat.testBit_or]
  exact ⟨by rw [this], rfl⟩
def trip (x y z : Nat) : Nat := (2 ^ x ||| 2 ^ y) ||| 2 ^ z
theorem or32 {x y : Nat} (hx : x < 4294967296) (hy : y < 4294967296) : x ||| y < 4294967296 := Nat.or_lt_two_pow (n := 32) hx hy
theorem trip32 {x y z : Nat} (hx : x < 32) (hy : y < 32) (hz : z < 32) : trip x y z < 4294967296 := or32 (or32 (pow_lt32 hx) (pow_lt32 hy)) (pow_lt32 hz)
set_option maxRecDepth 100000 in
theorem itriple (x y z : Nat) (hx : x < 32) (hy : y < 32) (hz : z < 32) (w : World) :
    Calls Tryd.prog 63 #[.int .i64 x, .int .i64 y, .int .i64 z] w fun e w' => e = .returned (.int .u32 ((trip x y z : Nat) : Int)) ∧ w' = w := by
  have H1 := Lib.hid (isingle x hx w)
  have H2 := Lib.hid (isingle y hy w)
  have H3 := Lib.hid (iunE (2 ^ x) (2 ^ y) w (pow_lt32 hx) (pow_lt32 hy))
  have H4 := Lib.hid (isingle z hz w)
  have H5 := Lib.hid (iunE (2 ^ x ||| 2 ^ y) (2 ^ z) w (or32 (pow_lt32 hx) (pow_lt32 hy)) (pow_lt32 hz))
  have HV : Hid ((2 ^ x ||| 2 ^ y) ||| 2 ^ z = trip x y z) := rfl
  obtain ⟨p, hp⟩ : ∃ p, 2 ^ x = p := ⟨_, rfl⟩
  obtain ⟨q, hq⟩ : ∃ q, 2 ^ y = q := ⟨_, rfl⟩
  obtain ⟨r, hr⟩ : ∃ r, 2 ^ z = r := ⟨_, rfl⟩
  rw [hp, hq, hr] at HV H5
  rw [hp, hq] at H3
  rw [hp] at H1
  rw [hq] at H2
  rw [hr] at H4
  obtain ⟨pq, hpq⟩ : ∃ t, p ||| q = t := ⟨_, rfl⟩
  rw [hpq] at H3 H5 HV
  clear hp hq hr hpq
  go_enter Tryd.func63, Tryd.ntmps63
  go_wp2_with fail
  refine H1.out.mono ?_
  rintro e w' ⟨rfl, rfl⟩
  go_wp2_with fail
  refine H2.out.mono ?_
  rintro e w' ⟨rfl, rfl⟩
  go_wp2_with fail
  refine H3.out.mono ?_
  rintro e w' ⟨rfl, rfl⟩
  go_wp2_with fail
  refine H4.out.mono ?_
  rintro e w' ⟨rfl, rfl⟩
  go_wp2_with fail
  refine H5.out.mono ?_
  rintro e w' ⟨rfl, rfl⟩
  go_wp2
  go_ret
  exact ⟨by rw [← HV.out]; rfl, rfl⟩

/-- The point x of a layer. -/
def pt (n x k : Nat) : Nat := x + n * (k % 3)
theorem pt_lt {n x k : Nat} (hn : n ≤ 9) (hx : x < n) : pt n x k < 27 := by
  unfold pt
  have h : n * (k % 3) ≤ n * 2 := Nat.mul_le_mul_left n (by omega)
  omega
set_option maxRecDepth 100000 in
theorem ipoint (n x k : Nat) (hn : n ≤ 9) (hx : x < n) (hk : k ≤ 4) (w : World) :
    Calls Tryd.prog 64 #[.agg #[.int .i64 n], .int .i64 x, .int .i64 k] w fun e w' => e = .returned (.int .i64 ((pt n x k : Nat) : Int)) ∧ Below w.heap.size w w' := by
  obtain ⟨B, hB⟩ : ∃ B, w.heap.size = B := ⟨_, rfl⟩
  obtain ⟨w1, hw1⟩ : ∃ w1, w.alloc (.cells #[.int .i64 n] 82) = w1 := ⟨_, rfl⟩
  have b1 : Below B w w1 := by rw [← hw1]; exact (Below.refl _ _).alloc (by omega) _
  have A1 : w1.heap[B]? = some (.cells #[.int .i64 n] 82 (0, 0)) := by rw [← hw1, ← hB]; exact heap_alloc_new _ _
  have c0 : w1.cell? ⟨B, 0, none⟩ = some (.int .i64 n) := by rw [cell_of_row w1 B 0 _ _ _ A1]; rfl
  have hr : Int.tmod (k : Int) 3 = ((k % 3 : Nat) : Int) := rfl
  have p27 := pt_lt (k := k) hn hx
  have HV : Hid (((x + n * (k % 3) : Nat) : Int) = ((pt n x k : Nat) : Int)) := rfl
  have h0 : n * (k % 3) ≤ 18 := by
    have h : n * (k % 3) ≤ 9 * 2 := Nat.mul_le_mul hn (by omega)
    omega
  obtain ⟨q, hq⟩ : ∃ q, k % 3 = q := ⟨_, rfl⟩
  rw [hq] at hr HV h0
  have q3 : q < 3 := by omega
  obtain ⟨p, hp⟩ : ∃ p, n * q = p := ⟨_, rfl⟩
  have hm : (n : Int) * (q : Int) = (p : Int) := by rw [← hp, Int.natCast_mul]
  rw [hp] at HV h0
  have w3 := IntWalk.i64_in (q : Int) (by omega)
  have w4 := IntWalk.i64_in (p : Int) (by omega)
  have w5 := IntWalk.i64_in ((x : Int) + (p : Int)) (by omega)
  have HB := Lib.hid hB
  have B1 := Lib.hid b1
  clear b1 A1 p27 hq hp
  go_enter Tryd.func64, Tryd.ntmps64
  go_wp2
  try rw [hw1]
  go_ret
  exact ⟨by rw [← HV.out]; rfl, by rw [HB.out]; exact B1.out⟩

/-- 'sets = append(sets, s)' at one operation of a region that draws. -/
theorem wp_pushU {o : Oper} {a : Act} {K : Act → World → Prop} {Q : Exit → Act → World → Prop} (w : World) (s x : Operand)
    (ho : o.op = .call { callee := .builtin .append, args := #[s, x], argTypes := #[45, 45] })
    (B : Nat) (v : Value) (L : List Nat) (hs : a.eval s = v) (h : Us w B v L) (y : Nat) (T : TypeId) (hx : a.eval x = .slice (some ⟨w.heap.size, 0, none⟩) 1 1)
    (hl : L.length < 1000000000000) (hB : B ≤ w.heap.size)
    (hK : ∀ v' w', Us w' B v' (L ++ [y]) → Below B w w' → K (a.put o.dst v') w') :
    o.wp Tryd.prog a (w.alloc (.cells #[.int .u32 (y : Nat)] T)) K Q := by
  obtain ⟨i0, hi0, hz0, hz1, hz2⟩ := info_parts Tryd.infoSet
  refine wp_append_at _ s x 45 ho B 53 i0 (.int .u32 0) 1 4 Tryd.underlying45 hi0 hz0 hz1 hz2 rfl (by decide) v L.length _ hs (World.ownsRow.alloc h _) ⟨w.heap.size, 0, none⟩ 1 1 [.int .u32 (y : Nat)] hx rfl ?c1 ?c2 ?c3 ?c4 ?c5 ?_
  case c1 =>
    intro j u hj
    match j, hj with
    | 0, hj => simp at hj; subst hj; simp [Addr.add]
  case c2 => intro u hu; simp at hu; subst hu; rfl
  case c3 => unfold maxLen; omega
  case c4 => omega
  case c5 => simp; omega
  intro v' w' h' hg hat
  refine hK v' w' ?_ ?_
  · unfold Us
    rw [List.length_append, List.map_append]
    exact h'
  · exact ((Below.refl _ _).alloc hB _).grown hg (by simp; omega) (fun k hk => (World.ownsRow.lt h k hk).1)

set_option maxRecDepth 100000 in
set_option maxHeartbeats 1000000 in
theorem iupright (n x : Nat) (hn : n ≤ 9) (hx : x < n) (w : World) :
    Calls Tryd.prog 62 #[.agg #[.int .i64 n], .int .i64 x] w fun e w' => e = .returned (.int .u32 ((trip (pt n x 0) (pt n x 1) (pt n x 2) : Nat) : Int)) ∧ Below w.heap.size w w' := by
  obtain ⟨B, hB⟩ : ∃ B, w.heap.size = B := ⟨_, rfl⟩
  obtain ⟨w1, hw1⟩ : ∃ w1, w.alloc (.cells #[.int .i64 n] 82) = w1 := ⟨_, rfl⟩
  have b1 : Below B w w1 := by rw [← hw1]; exact (Below.refl _ _).alloc (by omega) _
  have z1 : w1.heap.size = B + 1 := by rw [← hw1, World.size_alloc, hB]
  have A1 : w1.heap[B]? = some (.cells #[.int .i64 n] 82 (0, 0)) := by rw [← hw1, ← hB]; exact heap_alloc_new _ _
  have KC : Hid (∀ W, Below (B + 1) w1 W → W.cell? ⟨B, 0, none⟩ = some (.int .i64 n)) := fun W h => by
    rw [h.cell (p := ⟨B, 0, none⟩) (Nat.lt_succ_self B), cell_of_row w1 B 0 _ _ _ A1]; rfl
  have HP : Hid (∀ k W, k ≤ 4 → Below (B + 1) w1 W → Calls Tryd.prog 64 #[.agg #[.int .i64 n], .int .i64 x, .int .i64 ((k : Nat) : Int)] W fun e w' => e = .returned (.int .i64 ((pt n x k : Nat) : Int)) ∧ Below (B + 1) w1 w') := fun k W hk h =>
    (ipoint n x k hn hx hk W).mono fun e w' ⟨h1, h2⟩ => ⟨h1, h.trans (h2.mono (by have := h.size; omega))⟩
  have HP0 := Lib.hid (fun W h => HP.out 0 W (by omega) h)
  have HP1 := Lib.hid (fun W h => HP.out 1 W (by omega) h)
  have HP2 := Lib.hid (fun W h => HP.out 2 W (by omega) h)
  have HT := Lib.hid (fun W => itriple (pt n x 0) (pt n x 1) (pt n x 2) (by have := pt_lt (k := 0) hn hx; omega) (by have := pt_lt (k := 1) hn hx; omega) (by have := pt_lt (k := 2) hn hx; omega) W)
  obtain ⟨t0, h0⟩ : ∃ t, pt n x 0 = t := ⟨_, rfl⟩
  obtain ⟨t1, h1⟩ : ∃ t, pt n x 1 = t := ⟨_, rfl⟩
  obtain ⟨t2, h2⟩ : ∃ t, pt n x 2 = t := ⟨_, rfl⟩
  simp only [h0] at HP0
  simp only [h1] at HP1
  simp only [h2] at HP2
  simp only [h0, h1, h2] at HT ⊢
  have HB := Lib.hid hB
  have BB : Hid (∀ W, Below (B + 1) w1 W → Below B w W) := fun W h => b1.trans (h.mono (by omega))
  have BD : Hid (Below (B + 1) w1 w1.drew) := (Below.refl _ _).drew
  clear A1 h0 h1 h2 HP b1
  go_enter Tryd.func62, Tryd.ntmps62
  go_wp2
  try rw [hw1]
  refine wp_region_held_drew (S := fun w' => w'.cell? ⟨B, 0, none⟩ = some (.int .i64 n)) (by kernel_rfl) (KC.out _ BD.out) (fun hHeld => ?_)
  refine wpAnyH_take (i := 0) (oi := { dst := some 5, op := Op.load 82 (Operand.tmp 2), type := 82, pos := "l11_triples.go:98", after := #[], guard := none }) (v := ?_) rfl (by kernel_rfl) (by kernel_rfl) (by kernel_rfl) (fun _ _ _ h => h) (Or.inl ⟨by rfl, ?_⟩) (by assumption) ?_
  rotate_left
  · intro w hSw; (try dsimp only at hSw); go_simp
    try with_reducible rfl
  simp only [Act.put, List.setIfInBounds_toArray, List.set_cons_zero, List.set_cons_succ]
  refine wpAnyH_take (i := 1) (oi := { dst := some 6, op := Op.move (Operand.tmp 1), type := 2, pos := "l11_triples.go:98", after := #[], guard := none }) (v := ?_) rfl (by kernel_rfl) (by kernel_rfl) (by kernel_rfl) (fun _ _ _ h => h) (Or.inl ⟨by rfl, ?_⟩) (by assumption) ?_
  rotate_left
  · intro w hSw; (try dsimp only at hSw); go_simp
    try with_reducible rfl
  simp only [Act.put, List.setIfInBounds_toArray, List.set_cons_zero, List.set_cons_succ]
  refine wpAnyH_take (i := 3) (oi := { dst := some 8, op := Op.load 82 (Operand.tmp 2), type := 82, pos := "l11_triples.go:98", after := #[], guard := none }) (v := ?_) rfl (by kernel_rfl) (by kernel_rfl) (by kernel_rfl) (fun _ _ _ h => h) (Or.inl ⟨by rfl, ?_⟩) (by assumption) ?_
  rotate_left
  · intro w hSw; (try dsimp only at hSw); go_simp
    try with_reducible rfl
  simp only [Act.put, List.setIfInBounds_toArray, List.set_cons_zero, List.set_cons_succ]
  refine wpAnyH_take (i := 4) (oi := { dst := some 9, op := Op.move (Operand.tmp 1), type := 2, pos := "l11_triples.go:98", after := #[], guard := none }) (v := ?_) rfl (by kernel_rfl) (by kernel_rfl) (by kernel_rfl) (fun _ _ _ h => h) (Or.inl ⟨by rfl, ?_⟩) (by assumption) ?_
  rotate_left
  · intro w hSw; (try dsimp only at hSw); go_simp
    try with_reducible rfl
  simp only [Act.put, List.setIfInBounds_toArray, List.set_cons_zero, List.set_cons_succ]
  refine wpAnyH_take (i := 6) (oi := { dst := some 11, op := Op.load 82 (Operand.tmp 2), type := 82, pos := "l11_triples.go:98", after := #[], guard := none }) (v := ?_) rfl (by kernel_rfl) (by kernel_rfl) (by kernel_rfl) (fun _ _ _ h => h) (Or.inl ⟨by rfl, ?_⟩) (by assumption) ?_
  rotate_left
  · intro w hSw; (try dsimp only at hSw); go_simp
    try with_reducible rfl
  simp only [Act.put, List.setIfInBounds_toArray, List.set_cons_zero, List.set_cons_succ]
  refine wpAnyH_take (i := 7) (oi := { dst := some 12, op := Op.move (Operand.tmp 1), type := 2, pos := "l11_triples.go:98", after := #[], guard := none }) (v := ?_) rfl (by kernel_rfl) (by kernel_rfl) (by kernel_rfl) (fun _ _ _ h => h) (Or.inl ⟨by rfl, ?_⟩) (by assumption) ?_
  rotate_left
  · intro w hSw; (try dsimp only at hSw); go_simp
    try with_reducible rfl
  simp only [Act.put, List.setIfInBounds_toArray, List.set_cons_zero, List.set_cons_succ]
  refine wpAnyH_ready (rs := [2]) (by kernel_rfl) (by simp) ?_
  refine AllReadyH.cons rfl (fun K' hK' => ?_) AllReadyH.nil
  go_simp
  go_wp2_with fail
  refine (HP0.out _ BD.out).mono ?_
  rintro e b2w ⟨rfl, b2⟩
  have b2 := Lib.hid b2
  refine hK'.out _ _ (KC.out _ b2.out) (fun hHeld => ?_)
  clear hK' K'
  refine wpAnyH_ready (rs := [5]) (by kernel_rfl) (by simp) ?_
  refine AllReadyH.cons rfl (fun K' hK' => ?_) AllReadyH.nil
  go_simp
  go_wp2_with fail
  refine (HP1.out _ b2.out).mono ?_
  rintro e b3w ⟨rfl, b3⟩
  have b3 := Lib.hid b3
  refine hK'.out _ _ (KC.out _ b3.out) (fun hHeld => ?_)
  clear hK' K'
  refine wpAnyH_ready (rs := [8]) (by kernel_rfl) (by simp) ?_
  refine AllReadyH.cons rfl (fun K' hK' => ?_) AllReadyH.nil
  go_simp
  go_wp2_with fail
  refine (HP2.out _ b3.out).mono ?_
  rintro e b4w ⟨rfl, b4⟩
  have b4 := Lib.hid b4
  refine hK'.out _ _ (KC.out _ b4.out) (fun hHeld => ?_)
  clear hK' K'
  refine wpAnyH_ready (rs := [9]) (by kernel_rfl) (by simp) ?_
  refine AllReadyH.cons rfl (fun K' hK' => ?_) AllReadyH.nil
  go_simp
  go_wp2_with fail
  refine (HT.out _).mono ?_
  rintro e w9 ⟨rfl, ew⟩
  have ew := ew.symm
  subst ew
  refine hK'.out _ _ (KC.out _ b4.out) (fun hHeld => ?_)
  clear hK' K'
  refine wpAnyH_take (i := 10) (oi := { dst := some 4, op := Op.assign (Operand.tmp 14), type := 53, pos := "l11_triples.go:98", after := #[{ on := 9, ground := Ground.data }, { on := 9, ground := Ground.chain }, { on := 0, ground := Ground.phase }, { on := 1, ground := Ground.phase }, { on := 2, ground := Ground.phase }, { on := 3, ground := Ground.phase }, { on := 4, ground := Ground.phase }, { on := 5, ground := Ground.phase }, { on := 6, ground := Ground.phase }, { on := 7, ground := Ground.phase }, { on := 8, ground := Ground.phase }, { on := 9, ground := Ground.phase }], guard := none }) (v := ?_) rfl (by kernel_rfl) (by kernel_rfl) (by kernel_rfl) (fun _ _ _ h => h) (Or.inl ⟨by rfl, ?_⟩) (by assumption) ?_
  rotate_left
  · intro w hSw; (try dsimp only at hSw); go_simp
    try with_reducible rfl
  simp only [Act.put, List.setIfInBounds_toArray, List.set_cons_zero, List.set_cons_succ]
  refine wpAnyH_done (by kernel_rfl) ?_ _
  clear hHeld
  go_wp2
  go_ret
  exact ⟨rfl, by first | exact BB.out _ b4.out | (rw [HB.out]; exact BB.out _ b4.out)⟩

/-! The blocks of the made systems: slanted. -/
section
open Go.RowKit Go.Shelf
set_option linter.unusedVariables false
set_option linter.unusedSimpArgs false

/-- What a function of a sum answers. -/
def MidOk (w : World) (s : Value) (n : Nat) (mid : Nat → Nat) : Prop :=
  ∃ fn fs cs, s = .func (.func fn) fs cs ∧ (∀ args W, (callFunc fn args).run Tryd.prog W = .ok (.enter fn args) W) ∧ ∀ (W : World) (k : Nat), Below w.heap.size w W → k < 2 * n → mid k < n ∧ Calls Tryd.prog fn (fs ++ (#[.int .i64 (k : Nat)] ++ cs)) W fun e W' => e = .returned (.int .i64 ((mid k : Nat) : Int)) ∧ W' = W
def blkI (n : Nat) (mid : Nat → Nat) (y x i : Nat) : Nat := trip (pt n x i) (pt n y i) (pt n (mid (x + y)) (i + 1))
def sl3 (f : Nat → Nat → Nat → Nat) (y x : Nat) : Nat → List Nat
  | 0 => []
  | i + 1 => sl3 f y x i ++ [f y x i]
def sl2 (f : Nat → Nat → Nat → Nat) (y : Nat) : Nat → List Nat
  | 0 => []
  | x + 1 => sl2 f y x ++ sl3 f y x 3
def sl1 (f : Nat → Nat → Nat → Nat) : Nat → List Nat
  | 0 => []
  | y + 1 => sl1 f y ++ sl2 f y y
def slA (f : Nat → Nat → Nat → Nat) (y x i : Nat) : List Nat := sl1 f y ++ (sl2 f y x ++ sl3 f y x i)
theorem slA_step (f : Nat → Nat → Nat → Nat) (y x i : Nat) : slA f y x (i + 1) = slA f y x i ++ [f y x i] := by unfold slA; rw [sl3, List.append_assoc, List.append_assoc]
theorem slA_col (f : Nat → Nat → Nat → Nat) (y x : Nat) : slA f y (x + 1) 0 = slA f y x 3 := by
  show sl1 f y ++ ((sl2 f y x ++ sl3 f y x 3) ++ []) = _
  rw [List.append_nil]; rfl
theorem slA_row (f : Nat → Nat → Nat → Nat) (y : Nat) : slA f (y + 1) 0 0 = slA f y y 0 := by
  show (sl1 f y ++ sl2 f y y) ++ ([] ++ []) = sl1 f y ++ (sl2 f y y ++ [])
  rw [List.append_nil, List.append_nil, List.append_nil]
theorem slA_start (f : Nat → Nat → Nat → Nat) : slA f 0 0 0 = [] := rfl
theorem sl3_len (f : Nat → Nat → Nat → Nat) (y x : Nat) : ∀ i, (sl3 f y x i).length = i
  | 0 => rfl
  | i + 1 => by rw [sl3, List.length_append, sl3_len f y x i]; rfl
theorem sl2_len (f : Nat → Nat → Nat → Nat) (y : Nat) : ∀ x, (sl2 f y x).length = 3 * x
  | 0 => rfl
  | x + 1 => by rw [sl2, List.length_append, sl2_len f y x, sl3_len]; omega
theorem sl1_len (f : Nat → Nat → Nat → Nat) : ∀ y, y ≤ 9 → (sl1 f y).length ≤ 27 * y
  | 0, _ => Nat.le_refl _
  | y + 1, h => by
    have := sl1_len f y (by omega)
    rw [sl1, List.length_append, sl2_len]; omega
theorem slA_len (f : Nat → Nat → Nat → Nat) {y x i : Nat} (hy : y ≤ 9) (hx : x ≤ 9) (hi : i ≤ 3) : (slA f y x i).length ≤ 1000 := by
  have := sl1_len f y hy
  unfold slA
  rw [List.length_append, List.length_append, sl2_len, sl3_len]; omega
theorem Us.below {w w' : World} {B B' : Nat} {v : Value} {L : List Nat} (h : Us w B v L) (hb : Below B' w w') (hs : w.heap.size ≤ B') : Us w' B v L :=
  ownsRow_of_block h (fun k e => hb.block k (Nat.lt_of_lt_of_le (World.ownsRow.lt h k e).2 hs))

theorem Us.mono {w : World} {B B' : Nat} {v : Value} {L : List Nat} (h : Us w B v L) (hb : B' ≤ B) : Us w B' v L := by
  obtain ⟨h1, h2 | ⟨g, cap, cur, rfl, h3, h4⟩⟩ := h
  · exact ⟨h1, .inl h2⟩
  · exact ⟨h1, .inr ⟨g, cap, cur, rfl, by omega, h4⟩⟩
set_option maxRecDepth 100000 in
set_option maxHeartbeats 2000000 in
theorem islanted (n : Nat) (hn : n ≤ 9) (mid : Nat → Nat) (w : World) (s : Value) (hs : MidOk w s n mid) :
    Calls Tryd.prog 60 #[.agg #[.int .i64 n], s] w fun e w' => ∃ v, e = .returned v ∧ Us w' w.heap.size v (sl1 (blkI n mid) n) ∧ Below w.heap.size w w' := by
  obtain ⟨fn, fs, cs, rfl, hcf, hc⟩ := hs
  obtain ⟨B, hB⟩ : ∃ B, w.heap.size = B := ⟨_, rfl⟩
  rw [hB] at hc
  obtain ⟨w1, hw1⟩ : ∃ w1, w.alloc (.cells #[.int .i64 n] 82) = w1 := ⟨_, rfl⟩
  have b1 : Below B w w1 := by rw [← hw1]; exact (Below.refl _ _).alloc (by omega) _
  have z1 : w1.heap.size = B + 1 := by rw [← hw1, World.size_alloc, hB]
  have A1 : w1.heap[B]? = some (.cells #[.int .i64 n] 82 (0, 0)) := by rw [← hw1, ← hB]; exact heap_alloc_new _ _
  have KC : Hid (∀ W, Below (B + 1) w1 W → W.cell? ⟨B, 0, none⟩ = some (.int .i64 n)) := fun W h => by
    rw [h.cell (p := ⟨B, 0, none⟩) (Nat.lt_succ_self B), cell_of_row w1 B 0 _ _ _ A1]; rfl
  have BB : Hid (∀ W, Below (B + 1) w1 W → Below B w W) := fun W h => b1.trans (h.mono (by omega))
  have HM : Hid (∀ (W : World) (x y : Nat), Below (B + 1) w1 W → x < y → y < n → mid (x + y) < n ∧ Calls Tryd.prog fn (fs.push (.int .i64 ((x : Int) + (y : Int))) ++ cs) W fun e W' => e = .returned (.int .i64 ((mid (x + y) : Nat) : Int)) ∧ W' = W) := fun W x y h h1 h2 => by
    have := hc W (x + y) (BB.out W h) (by omega)
    rw [Int.natCast_add, show fs ++ (#[Value.int .i64 ((x : Int) + (y : Int))] ++ cs) = fs.push (.int .i64 ((x : Int) + (y : Int))) ++ cs by simp] at this
    exact this
  have HP : Hid (∀ (x k : Nat) (W : World), x < n → k ≤ 4 → Calls Tryd.prog 64 #[.agg #[.int .i64 n], .int .i64 x, .int .i64 ((k : Nat) : Int)] W fun e w' => e = .returned (.int .i64 ((pt n x k : Nat) : Int)) ∧ Below W.heap.size W w') := fun x k W hx hk => ipoint n x k hn hx hk W
  have HT : Hid (∀ (x y z : Nat) (W : World), x < 27 → y < 27 → z < 27 → Calls Tryd.prog 63 #[.int .i64 x, .int .i64 y, .int .i64 z] W fun e w' => e = .returned (.int .u32 ((trip x y z : Nat) : Int)) ∧ w' = W) := fun x y z W hx hy hz => itriple x y z (by omega) (by omega) (by omega) W
  have PL : Hid (∀ x k, x < n → pt n x k < 27) := fun x k hx => pt_lt hn hx
  have FV : Hid (∀ y x i, trip (pt n x i) (pt n y i) (pt n (mid (x + y)) (i + 1)) = blkI n mid y x i) := fun y x i => rfl
  obtain ⟨f, hf⟩ : ∃ f, blkI n mid = f := ⟨_, rfl⟩
  simp only [hf] at FV ⊢
  have SS : Hid (∀ y x i, slA f y x (i + 1) = slA f y x i ++ [f y x i]) := fun y x i => slA_step f y x i
  have SC : Hid (∀ y x, slA f y (x + 1) 0 = slA f y x 3) := fun y x => slA_col f y x
  have SR : Hid (∀ y, slA f (y + 1) 0 0 = slA f y y 0) := fun y => slA_row f y
  have SE : Hid (slA f n 0 0 = sl1 f n) := by unfold Hid slA; rw [sl2, sl3, List.append_nil, List.append_nil]
  have SN : Hid (∀ y x i, y ≤ 9 → x ≤ 9 → i ≤ 3 → (slA f y x i).length ≤ 1000) := fun y x i h1 h2 h3 => slA_len f h1 h2 h3
  have I0 : Hid (Us w1 (B + 1) (.slice none 0 0) (slA f 0 0 0)) := World.ownsRow_nil _ _ _ _
  have B0 : Hid (Below (B + 1) w1 w1) := Below.refl _ _
  have HB := Lib.hid hB
  have c0 := KC.out w1 B0.out
  have Z1 := Lib.hid z1
  clear A1 b1 hc hf
  go_enter Tryd.func60, Tryd.ntmps60
  go_wp2
  try rw [hw1]
  clear c0 hw1 z1 hB
  go_loopw [5, 12] (fun bv i wr => ∃ y : Nat, y ≤ n ∧ i = .int .i64 y ∧ Hid (Us wr (B + 1) bv (slA f y 0 0)) ∧ Hid (Below (B + 1) w1 wr)) (fun _ i _ => n - (intOf i).toNat)
  case atStart => exact ⟨0, by omega, rfl, I0, B0⟩
  case round =>
    obtain ⟨y, hy, rfl, hV, hBl⟩ := hrel
    by_cases c : y < n
    · have k1 : decide (y < n) = true := by simpa using c
      have k1' : decide ((y : Int) < (n : Int)) = true := decide_eq_true (by omega)
      have wy := IntWalk.i64_in ((y : Int) + 1) (by omega)
      obtain ⟨wq, rfl⟩ : ∃ wq : World, wq = wr := ⟨_, rfl⟩
      go_wp2
      go_loopw [5, 16] (fun bv i wr => ∃ x : Nat, x ≤ y ∧ i = .int .i64 x ∧ Hid (Us wr (B + 1) bv (slA f y x 0)) ∧ Hid (Below (B + 1) w1 wr)) (fun _ i _ => y - (intOf i).toNat)
      case atStart => exact ⟨0, by omega, rfl, hV, hBl⟩
      case round =>
        obtain ⟨x, hx, rfl, hV2, hBl2⟩ := hrel
        by_cases c2 : x < y
        · have k2 : decide (x < y) = true := by simpa using c2
          have k2' : decide ((x : Int) < (y : Int)) = true := decide_eq_true (by omega)
          have wx := IntWalk.i64_in ((x : Int) + 1) (by omega)
          have wxy := IntWalk.i64_in ((x : Int) + (y : Int)) (by omega)
          obtain ⟨zn, hm⟩ := HM.out wr x y hBl2.out c2 c
          have HMx := Lib.hid hm
          have FX := Lib.hid (fun i => FV.out y x i)
          obtain ⟨z, hz⟩ : ∃ z, mid (x + y) = z := ⟨_, rfl⟩
          simp only [hz] at HMx FX
          rw [hz] at zn
          clear hm hz
          go_wp2_with fail
          refine HMx.out.mono ?_
          rintro e w5 ⟨rfl, ew⟩
          subst ew
          go_wp2
          go_loopw [5, 24] (fun bv i w9 => ∃ j : Nat, j ≤ 3 ∧ i = .int .i64 j ∧ Hid (Us w9 (B + 1) bv (slA f y x j)) ∧ Hid (Below (B + 1) w1 w9)) (fun _ i _ => 3 - (intOf i).toNat)
          case atStart => exact ⟨0, by omega, rfl, hV2, hBl2⟩
          case round =>
            obtain ⟨j, hj, rfl, hV3, hBl3⟩ := hrel
            by_cases c3 : j < 3
            · have k3 : decide (j < 3) = true := by simpa using c3
              have k3' : decide ((j : Int) < 3) = true := decide_eq_true (by omega)
              have wj := IntWalk.i64_in ((j : Int) + 1) (by omega)
              have xn : x < n := by omega
              have P1 := Lib.hid (fun W => HP.out x j W xn (by omega))
              have P2 := Lib.hid (fun W => HP.out y j W c (by omega))
              have P3 := Lib.hid (fun W => HP.out z (j + 1) W zn (by omega))
              have TT := Lib.hid (fun W => HT.out (pt n x j) (pt n y j) (pt n z (j + 1)) W (PL.out x j xn) (PL.out y j c) (PL.out z (j + 1) zn))
              have FJ := FX.out j
              rw [show (((j + 1 : Nat)) : Int) = (j : Int) + 1 from rfl] at P3
              obtain ⟨p1, e1⟩ : ∃ t, pt n x j = t := ⟨_, rfl⟩
              obtain ⟨p2, e2⟩ : ∃ t, pt n y j = t := ⟨_, rfl⟩
              obtain ⟨p3, e3⟩ : ∃ t, pt n z (j + 1) = t := ⟨_, rfl⟩
              rw [e1, e2, e3] at FJ
              simp only [e1] at P1 TT
              simp only [e2] at P2 TT
              simp only [e3] at P3 TT
              obtain ⟨tv, htv⟩ : ∃ t, trip p1 p2 p3 = t := ⟨_, rfl⟩
              simp only [htv] at TT
              rw [htv] at FJ
              have SJ : Hid (slA f y x (j + 1) = slA f y x j ++ [tv]) := by unfold Hid; rw [SS.out, ← FJ]
              have LN : (slA f y x j).length < 1000000000000 := by have := SN.out y x j (by omega) (by omega) (by omega); omega
              clear e1 e2 e3 htv FJ
              go_wp2
              obtain ⟨Y, hY⟩ : ∃ Y, wr.heap.size = Y := ⟨_, rfl⟩
              have YB : B + 1 ≤ Y := by have := hBl3.out.size; have := Z1.out; omega
              have D0 : Hid (Below Y wr wr.drew) := (Below.refl _ _).drew
              have KW : Hid (∀ W, Below Y wr W → W.cell? ⟨B, 0, none⟩ = some (.int .i64 n)) := fun W h => KC.out W (hBl3.out.trans (h.mono YB))
              have KT : Hid (∀ W W', Below Y wr W → Below W.heap.size W W' → Below Y wr W') := fun W W' h h' => h.trans (h'.mono (by have := h.size; omega))
              have hY' := Lib.hid hY
              clear hY
              refine wp_region_held_drew (S := fun w' => w'.cell? ⟨B, 0, none⟩ = some (.int .i64 n)) (by kernel_rfl) (KW.out _ D0.out) (fun hHeld => ?_)
              refine wpAnyH_take (i := 0) (oi := { dst := some 27, op := Op.move (Operand.tmp 5), type := 45, pos := "l11_triples.go:109", after := #[], guard := none }) (v := ?_) rfl (by kernel_rfl) (by kernel_rfl) (by kernel_rfl) (fun _ _ _ h => h) (Or.inl ⟨by rfl, ?_⟩) (by assumption) ?_
              rotate_left
              · intro w hSw; (try dsimp only at hSw); go_simp
                try with_reducible rfl
              simp only [Act.put, List.setIfInBounds_toArray, List.set_cons_zero, List.set_cons_succ]
              refine wpAnyH_take (i := 1) (oi := { dst := some 28, op := Op.load 82 (Operand.tmp 2), type := 82, pos := "l11_triples.go:109", after := #[], guard := none }) (v := ?_) rfl (by kernel_rfl) (by kernel_rfl) (by kernel_rfl) (fun _ _ _ h => h) (Or.inl ⟨by rfl, ?_⟩) (by assumption) ?_
              rotate_left
              · intro w hSw; (try dsimp only at hSw); go_simp
                try with_reducible rfl
              simp only [Act.put, List.setIfInBounds_toArray, List.set_cons_zero, List.set_cons_succ]
              refine wpAnyH_take (i := 2) (oi := { dst := some 29, op := Op.move (Operand.tmp 7), type := 2, pos := "l11_triples.go:109", after := #[], guard := none }) (v := ?_) rfl (by kernel_rfl) (by kernel_rfl) (by kernel_rfl) (fun _ _ _ h => h) (Or.inl ⟨by rfl, ?_⟩) (by assumption) ?_
              rotate_left
              · intro w hSw; (try dsimp only at hSw); go_simp
                try with_reducible rfl
              simp only [Act.put, List.setIfInBounds_toArray, List.set_cons_zero, List.set_cons_succ]
              refine wpAnyH_take (i := 3) (oi := { dst := some 30, op := Op.move (Operand.tmp 9), type := 2, pos := "l11_triples.go:109", after := #[], guard := none }) (v := ?_) rfl (by kernel_rfl) (by kernel_rfl) (by kernel_rfl) (fun _ _ _ h => h) (Or.inl ⟨by rfl, ?_⟩) (by assumption) ?_
              rotate_left
              · intro w hSw; (try dsimp only at hSw); go_simp
                try with_reducible rfl
              simp only [Act.put, List.setIfInBounds_toArray, List.set_cons_zero, List.set_cons_succ]
              refine wpAnyH_take (i := 5) (oi := { dst := some 32, op := Op.load 82 (Operand.tmp 2), type := 82, pos := "l11_triples.go:109", after := #[], guard := none }) (v := ?_) rfl (by kernel_rfl) (by kernel_rfl) (by kernel_rfl) (fun _ _ _ h => h) (Or.inl ⟨by rfl, ?_⟩) (by assumption) ?_
              rotate_left
              · intro w hSw; (try dsimp only at hSw); go_simp
                try with_reducible rfl
              simp only [Act.put, List.setIfInBounds_toArray, List.set_cons_zero, List.set_cons_succ]
              refine wpAnyH_take (i := 6) (oi := { dst := some 33, op := Op.move (Operand.tmp 6), type := 2, pos := "l11_triples.go:109", after := #[], guard := none }) (v := ?_) rfl (by kernel_rfl) (by kernel_rfl) (by kernel_rfl) (fun _ _ _ h => h) (Or.inl ⟨by rfl, ?_⟩) (by assumption) ?_
              rotate_left
              · intro w hSw; (try dsimp only at hSw); go_simp
                try with_reducible rfl
              simp only [Act.put, List.setIfInBounds_toArray, List.set_cons_zero, List.set_cons_succ]
              refine wpAnyH_take (i := 7) (oi := { dst := some 34, op := Op.move (Operand.tmp 9), type := 2, pos := "l11_triples.go:109", after := #[], guard := none }) (v := ?_) rfl (by kernel_rfl) (by kernel_rfl) (by kernel_rfl) (fun _ _ _ h => h) (Or.inl ⟨by rfl, ?_⟩) (by assumption) ?_
              rotate_left
              · intro w hSw; (try dsimp only at hSw); go_simp
                try with_reducible rfl
              simp only [Act.put, List.setIfInBounds_toArray, List.set_cons_zero, List.set_cons_succ]
              refine wpAnyH_take (i := 9) (oi := { dst := some 36, op := Op.load 82 (Operand.tmp 2), type := 82, pos := "l11_triples.go:109", after := #[], guard := none }) (v := ?_) rfl (by kernel_rfl) (by kernel_rfl) (by kernel_rfl) (fun _ _ _ h => h) (Or.inl ⟨by rfl, ?_⟩) (by assumption) ?_
              rotate_left
              · intro w hSw; (try dsimp only at hSw); go_simp
                try with_reducible rfl
              simp only [Act.put, List.setIfInBounds_toArray, List.set_cons_zero, List.set_cons_succ]
              refine wpAnyH_take (i := 10) (oi := { dst := some 37, op := Op.move (Operand.tmp 8), type := 2, pos := "l11_triples.go:109", after := #[], guard := none }) (v := ?_) rfl (by kernel_rfl) (by kernel_rfl) (by kernel_rfl) (fun _ _ _ h => h) (Or.inl ⟨by rfl, ?_⟩) (by assumption) ?_
              rotate_left
              · intro w hSw; (try dsimp only at hSw); go_simp
                try with_reducible rfl
              simp only [Act.put, List.setIfInBounds_toArray, List.set_cons_zero, List.set_cons_succ]
              refine wpAnyH_take (i := 11) (oi := { dst := some 38, op := Op.move (Operand.tmp 9), type := 2, pos := "l11_triples.go:109", after := #[], guard := none }) (v := ?_) rfl (by kernel_rfl) (by kernel_rfl) (by kernel_rfl) (fun _ _ _ h => h) (Or.inl ⟨by rfl, ?_⟩) (by assumption) ?_
              rotate_left
              · intro w hSw; (try dsimp only at hSw); go_simp
                try with_reducible rfl
              simp only [Act.put, List.setIfInBounds_toArray, List.set_cons_zero, List.set_cons_succ]
              refine wpAnyH_take (i := 12) (oi := { dst := some 39, op := Op.binOp BinOp.add 2 (Operand.tmp 38) (Operand.const (Value.int IntKind.i64 1)) 2, type := 2, pos := "l11_triples.go:109", after := #[{ on := 11, ground := Ground.data }], guard := none }) (v := ?_) rfl (by kernel_rfl) (by kernel_rfl) (by kernel_rfl) (fun _ _ _ h => h) (Or.inl ⟨by rfl, ?_⟩) (by assumption) ?_
              rotate_left
              · intro w hSw; (try dsimp only at hSw); go_simp
                try with_reducible rfl
              simp only [Act.put, List.setIfInBounds_toArray, List.set_cons_zero, List.set_cons_succ]
              refine wpAnyH_ready (rs := [4]) (by kernel_rfl) (by simp) ?_
              refine AllReadyH.cons rfl (fun K' hK' => ?_) AllReadyH.nil
              go_simp
              go_wp2_with fail
              refine (P1.out _).mono ?_
              rintro e D1w ⟨rfl, hD1⟩
              have D1 := Lib.hid (KT.out _ _ D0.out hD1)
              refine hK'.out _ _ (KW.out _ D1.out) (fun hHeld => ?_)
              clear hK' K' hD1
              refine wpAnyH_ready (rs := [8]) (by kernel_rfl) (by simp) ?_
              refine AllReadyH.cons rfl (fun K' hK' => ?_) AllReadyH.nil
              go_simp
              go_wp2_with fail
              refine (P2.out _).mono ?_
              rintro e D2w ⟨rfl, hD2⟩
              have D2 := Lib.hid (KT.out _ _ D1.out hD2)
              refine hK'.out _ _ (KW.out _ D2.out) (fun hHeld => ?_)
              clear hK' K' hD2
              refine wpAnyH_ready (rs := [13]) (by kernel_rfl) (by simp) ?_
              refine AllReadyH.cons rfl (fun K' hK' => ?_) AllReadyH.nil
              go_simp
              go_wp2_with fail
              refine (P3.out _).mono ?_
              rintro e D3w ⟨rfl, hD3⟩
              have D3 := Lib.hid (KT.out _ _ D2.out hD3)
              refine hK'.out _ _ (KW.out _ D3.out) (fun hHeld => ?_)
              clear hK' K' hD3
              refine wpAnyH_ready (rs := [14]) (by kernel_rfl) (by simp) ?_
              refine AllReadyH.cons rfl (fun K' hK' => ?_) AllReadyH.nil
              go_simp
              go_wp2_with fail
              refine (TT.out _).mono ?_
              rintro e w8 ⟨rfl, ew⟩
              have ew := ew.symm
              subst ew
              refine hK'.out _ _ (KW.out _ D3.out) (fun hHeld => ?_)
              clear hK' K'
              have D4 : Hid (Below Y wr (D3w.alloc (.cells #[.int .u32 (tv : Nat)] 53))) := KT.out _ _ D3.out ((Below.refl _ _).alloc (Nat.le_refl _) _)
              have U3 : Hid (Us D3w (B + 1) _ (slA f y x j)) := hV3.out.below D3.out (Nat.le_of_eq hY'.out)
              have z3 : B + 1 ≤ D3w.heap.size := by have := D3.out.size; have := hY'.out; omega
              refine wpAnyH_ready (rs := [15]) (by kernel_rfl) (by simp) ?_
              refine AllReadyH.cons rfl (fun K' hK' => ?_) AllReadyH.nil
              go_simp
              refine hK'.out _ _ (KW.out _ D4.out) (fun hHeld => ?_)
              clear hK' K'
              refine wpAnyH_ready (rs := [16]) (by kernel_rfl) (by simp) ?_
              refine AllReadyH.cons rfl (fun K' hK' => ?_) AllReadyH.nil
              rw [if_pos (by rfl)]
              refine wp_pushU D3w _ _ (by rfl) (B + 1) _ _ (by rfl) U3.out tv _ (by rfl) LN z3 ?_
              intro v' w9 hn hb
              have HN := Lib.hid hn
              have B9 : Hid (Below (B + 1) w1 w9) := (hBl3.out.trans (D3.out.mono YB)).trans hb
              clear hn hb
              simp only [Act.put, List.setIfInBounds_toArray, List.set_cons_zero, List.set_cons_succ]
              refine hK'.out _ _ (KC.out _ B9.out) (fun hHeld => ?_)
              clear hK' K'
              refine wpAnyH_take (i := 17) (oi := { dst := some 5, op := Op.assign (Operand.tmp 43), type := 45, pos := "l11_triples.go:109", after := #[{ on := 16, ground := Ground.data }, { on := 16, ground := Ground.chain }, { on := 0, ground := Ground.phase }, { on := 1, ground := Ground.phase }, { on := 2, ground := Ground.phase }, { on := 3, ground := Ground.phase }, { on := 4, ground := Ground.phase }, { on := 5, ground := Ground.phase }, { on := 6, ground := Ground.phase }, { on := 7, ground := Ground.phase }, { on := 8, ground := Ground.phase }, { on := 9, ground := Ground.phase }, { on := 10, ground := Ground.phase }, { on := 11, ground := Ground.phase }, { on := 12, ground := Ground.phase }, { on := 13, ground := Ground.phase }, { on := 14, ground := Ground.phase }, { on := 15, ground := Ground.phase }, { on := 16, ground := Ground.phase }], guard := none }) (v := ?_) rfl (by kernel_rfl) (by kernel_rfl) (by kernel_rfl) (fun _ _ _ h => h) (Or.inl ⟨by rfl, ?_⟩) (by assumption) ?_
              rotate_left
              · intro w hSw; (try dsimp only at hSw); go_simp
                try with_reducible rfl
              simp only [Act.put, List.setIfInBounds_toArray, List.set_cons_zero, List.set_cons_succ]
              refine wpAnyH_done (by kernel_rfl) ?_ _
              clear hHeld
              go_wp2
              go_roundw
              case rel => exact ⟨j + 1, by omega, by go_num, by unfold Hid; rw [SJ.out]; exact HN.out, B9⟩
              case measure => simp [intOf]; omega
            · have k3 : decide (j < 3) = false := by simpa using c3
              have k3' : decide ((j : Int) < 3) = false := decide_eq_false (by omega)
              obtain rfl : j = 3 := by omega
              go_wp2
              go_roundw
              case rel => exact ⟨x + 1, by omega, by go_num, by unfold Hid; rw [SC.out]; exact hV3.out, hBl3⟩
              case measure => simp [intOf]; omega
        · have k2 : decide (x < y) = false := by simpa using c2
          have k2' : decide ((x : Int) < (y : Int)) = false := decide_eq_false (by omega)
          obtain rfl : x = y := by omega
          go_wp2
          go_roundw
          case rel => exact ⟨x + 1, by omega, by go_num, by unfold Hid; rw [SR.out]; exact hV2.out, hBl2⟩
          case measure => simp [intOf]; omega
    · have k1 : decide (y < n) = false := by simpa using c
      have k1' : decide ((y : Int) < (n : Int)) = false := decide_eq_false (by omega)
      obtain rfl : y = n := by omega
      have hV' := hV.out
      rw [SE.out] at hV'
      have VV := Lib.hid hV'
      clear hV' hV
      go_wp2
      go_ret
      exact ⟨_, rfl, VV.out.mono (by have := HB.out; omega), by rw [HB.out]; exact BB.out _ hBl.out⟩

/-! The blocks of the made systems: both constructions. -/
section
open Go.RowKit Go.Shelf
set_option linter.unusedVariables false
set_option linter.unusedSimpArgs false

def oddM (t k : Nat) : Nat := (t + 1) * k % (2 * t + 1)
def evenM (t k : Nat) : Nat := if k % (2 * t) % 2 = 0 then k % (2 * t) / 2 else (k % (2 * t) - 1) / 2 + t
theorem iOddFn (t k : Nat) (ht : t ≤ 4) (hk : k < 18) (a b : Nat) (w : World) (c0 : w.cell? ⟨a, 0, none⟩ = some (.int .i64 t)) (c1 : w.cell? ⟨b, 0, none⟩ = some (.int .i64 ((2 * t + 1 : Nat) : Int))) :
    Calls Tryd.prog 65 #[.int .i64 (k : Nat), .pointer (some ⟨a, 0, none⟩), .pointer (some ⟨b, 0, none⟩)] w fun e w' => e = .returned (.int .i64 ((oddM t k : Nat) : Int)) ∧ w' = w := by
  have w1 := IntWalk.i64_in ((t : Int) + 1) (by omega)
  have h0 : (t + 1) * k ≤ 100 := by
    have h : (t + 1) * k ≤ 5 * 18 := Nat.mul_le_mul (by omega) (by omega)
    omega
  have HV : Hid ((((t + 1) * k % (2 * t + 1) : Nat) : Int) = ((oddM t k : Nat) : Int)) := rfl
  have hm : ((t : Int) + 1) * (k : Int) = (((t + 1) * k : Nat) : Int) := by rw [Int.natCast_mul]; rfl
  obtain ⟨p, hp⟩ : ∃ p, (t + 1) * k = p := ⟨_, rfl⟩
  obtain ⟨n, hn⟩ : ∃ n, 2 * t + 1 = n := ⟨_, rfl⟩
  rw [hp] at hm h0 HV
  rw [hn] at HV c1
  have n0 : ¬ (n : Int) = 0 := by omega
  have n0' : ¬ n = 0 := by omega
  have w2 := IntWalk.i64_in (p : Int) (by omega)
  have hr : Int.tmod (p : Int) (n : Int) = ((p % n : Nat) : Int) := rfl
  obtain ⟨r, hrr⟩ : ∃ r, p % n = r := ⟨_, rfl⟩
  have r9 : r ≤ 100 := by rw [← hrr]; exact Nat.le_trans (Nat.mod_le _ _) h0
  rw [hrr] at hr HV
  have w3 := IntWalk.i64_in (r : Int) (by omega)
  clear hp hrr
  go_enter Tryd.func65, Tryd.ntmps65
  go_wp2
  go_ret
  exact ⟨by rw [← HV.out]; rfl, rfl⟩
theorem iEvenFn (t k : Nat) (h1 : 1 ≤ t) (ht : t ≤ 4) (hk : k < 18) (a b : Nat) (w : World) (c0 : w.cell? ⟨a, 0, none⟩ = some (.int .i64 ((2 * t : Nat) : Int))) (c1 : w.cell? ⟨b, 0, none⟩ = some (.int .i64 t)) :
    Calls Tryd.prog 61 #[.int .i64 (k : Nat), .pointer (some ⟨a, 0, none⟩), .pointer (some ⟨b, 0, none⟩)] w fun e w' => e = .returned (.int .i64 ((evenM t k : Nat) : Int)) ∧ w' = w := by
  have HV : Hid (((if k % (2 * t) % 2 = 0 then k % (2 * t) / 2 else (k % (2 * t) - 1) / 2 + t : Nat) : Int) = ((evenM t k : Nat) : Int)) := rfl
  obtain ⟨n, hn⟩ : ∃ n, 2 * t = n := ⟨_, rfl⟩
  rw [hn] at HV c0
  have n0 : ¬ (n : Int) = 0 := by omega
  have n0' : ¬ n = 0 := by omega
  have hr : Int.tmod (k : Int) (n : Int) = ((k % n : Nat) : Int) := rfl
  obtain ⟨r, hrr⟩ : ∃ r, k % n = r := ⟨_, rfl⟩
  have r9 : r ≤ 18 := by rw [← hrr]; exact Nat.le_trans (Nat.mod_le _ _) (by omega)
  rw [hrr] at hr HV
  have w3 := IntWalk.i64_in (r : Int) (by omega)
  have h2 : Int.tmod (r : Int) 2 = ((r % 2 : Nat) : Int) := rfl
  clear hrr
  by_cases c : r % 2 = 0
  · rw [if_pos c] at HV
    rw [c] at h2
    have q1 : Int.tdiv (r : Int) 2 = ((r / 2 : Nat) : Int) := rfl
    obtain ⟨q, hq⟩ : ∃ q, r / 2 = q := ⟨_, rfl⟩
    rw [hq] at q1 HV
    have w4 := IntWalk.i64_in (q : Int) (by omega)
    clear hq c
    go_enter Tryd.func61, Tryd.ntmps61
    go_wp2
    go_ret
    exact ⟨by rw [← HV.out]; rfl, rfl⟩
  · rw [if_neg c] at HV
    have c1' : r % 2 = 1 := by omega
    rw [c1'] at h2
    have e1 : (r : Int) - 1 = ((r - 1 : Nat) : Int) := by omega
    have w5 : IntKind.i64.wrap ((r : Int) - 1) = ((r - 1 : Nat) : Int) := by rw [e1]; exact IntWalk.i64_in _ (by omega)
    have q1 : Int.tdiv ((r - 1 : Nat) : Int) 2 = (((r - 1) / 2 : Nat) : Int) := rfl
    obtain ⟨q, hq⟩ : ∃ q, (r - 1) / 2 = q := ⟨_, rfl⟩
    have q9 : q ≤ 18 := by omega
    rw [hq] at q1 HV
    obtain ⟨rm, hrm⟩ : ∃ q, r - 1 = q := ⟨_, rfl⟩
    rw [hrm] at q1 w5
    have w4 := IntWalk.i64_in (q : Int) (by omega)
    have w6 := IntWalk.i64_in ((q : Int) + (t : Int)) (by omega)
    clear hq c hrm e1
    go_enter Tryd.func61, Tryd.ntmps61
    go_wp2
    go_ret
    exact ⟨by rw [← HV.out]; rfl, rfl⟩

def upN (n x : Nat) : Nat := trip (pt n x 0) (pt n x 1) (pt n x 2)
def upL (n : Nat) : Nat → List Nat
  | 0 => []
  | x + 1 => upL n x ++ [upN n x]
theorem upL_len (n : Nat) : ∀ x, (upL n x).length = x
  | 0 => rfl
  | x + 1 => by rw [upL, List.length_append, upL_len n x]; rfl
def oddL (t : Nat) : List Nat := sl1 (blkI (2 * t + 1) (oddM t)) (2 * t + 1) ++ upL (2 * t + 1) (2 * t + 1)

set_option maxRecDepth 100000 in
set_option maxHeartbeats 2000000 in
theorem iodd (t : Nat) (ht : t ≤ 4) (w : World) :
    Calls Tryd.prog 31 #[.int .i64 t] w fun e w' => ∃ v, e = .returned v ∧ Us w' w.heap.size v (oddL t) ∧ Below w.heap.size w w' := by
  obtain ⟨B, hB⟩ : ∃ B, w.heap.size = B := ⟨_, rfl⟩
  have m2 : (2 : Int) * (t : Int) = ((2 * t : Nat) : Int) := by rw [Int.natCast_mul]; rfl
  have w9a : IntKind.i64.wrap ((2 : Int) * (t : Int)) = ((2 * t : Nat) : Int) := by rw [m2]; exact IntWalk.i64_in _ (by omega)
  have w9b : IntKind.i64.wrap (((2 * t : Nat) : Int) + 1) = ((2 * t + 1 : Nat) : Int) := IntWalk.i64_in _ (by omega)
  obtain ⟨n2, hn2⟩ : ∃ n2, 2 * t = n2 := ⟨_, rfl⟩
  obtain ⟨n, hn⟩ : ∃ n, 2 * t + 1 = n := ⟨_, rfl⟩
  have hOL : Hid (sl1 (blkI n (oddM t)) n ++ upL n n = oddL t) := by unfold oddL; rw [hn]; exact rfl
  rw [hn2] at w9a w9b
  rw [show n2 + 1 = n by omega] at w9b
  have n9 : n ≤ 9 := by omega
  obtain ⟨w1, hw1⟩ : ∃ w1, w.alloc (.cells #[.int .i64 t] 2) = w1 := ⟨_, rfl⟩
  have z1 : w1.heap.size = B + 1 := by rw [← hw1, World.size_alloc, hB]
  have b1 : Below B w w1 := by rw [← hw1]; exact (Below.refl _ _).alloc (by omega) _
  have A1 : w1.heap[B]? = some (.cells #[.int .i64 t] 2 (0, 0)) := by rw [← hw1, ← hB]; exact heap_alloc_new _ _
  obtain ⟨w2, hw2⟩ : ∃ w2, w1.alloc (.cells #[.int .i64 n] 2) = w2 := ⟨_, rfl⟩
  have z2 : w2.heap.size = B + 2 := by rw [← hw2, World.size_alloc, z1]
  have b12 : Below (B + 1) w1 w2 := by rw [← hw2]; exact (Below.refl _ _).alloc (by omega) _
  have A2 : w2.heap[B + 1]? = some (.cells #[.int .i64 n] 2 (0, 0)) := by rw [← hw2, ← z1]; exact heap_alloc_new _ _
  obtain ⟨w3, hw3⟩ : ∃ w3, w2.alloc (.cells #[.int .i64 n] 82) = w3 := ⟨_, rfl⟩
  have z3 : w3.heap.size = B + 3 := by rw [← hw3, World.size_alloc, z2]
  have b23 : Below (B + 2) w2 w3 := by rw [← hw3]; exact (Below.refl _ _).alloc (by omega) _
  have A3 : w3.heap[B + 2]? = some (.cells #[.int .i64 n] 82 (0, 0)) := by rw [← hw3, ← z2]; exact heap_alloc_new _ _
  have A32 := (b23.block (B + 1) (by omega)).trans A2
  have A31 := (b23.block B (by omega)).trans ((b12.block B (by omega)).trans A1)
  have B3 : Below B w w3 := (b1.trans (b12.mono (by omega))).trans (b23.mono (by omega))
  have KC : Hid (∀ W, Below (B + 3) w3 W → W.cell? ⟨B, 0, none⟩ = some (.int .i64 t) ∧ W.cell? ⟨B + 1, 0, none⟩ = some (.int .i64 n) ∧ W.cell? ⟨B + 2, 0, none⟩ = some (.int .i64 n)) := fun W h =>
    ⟨by rw [h.cell (p := ⟨B, 0, none⟩) (by show B < B + 3; omega), cell_of_row w3 B 0 _ _ _ A31]; rfl, by rw [h.cell (p := ⟨B + 1, 0, none⟩) (by show B + 1 < B + 3; omega), cell_of_row w3 (B + 1) 0 _ _ _ A32]; rfl, by rw [h.cell (p := ⟨B + 2, 0, none⟩) (by show B + 2 < B + 3; omega), cell_of_row w3 (B + 2) 0 _ _ _ A3]; rfl⟩
  have hcf : ∀ args W, (callFunc 65 args).run Tryd.prog W = .ok (.enter 65 args) W := enters_of Tryd.func65 (by kernel_rfl) rfl
  have HS := Lib.hid (islanted n n9 (oddM t) w3 (.func (.func 65) #[] #[.pointer (some ⟨B, 0, none⟩), .pointer (some ⟨B + 1, 0, none⟩)])
    ⟨_, _, _, rfl, hcf, fun W k h hk => ⟨by have := Nat.mod_lt ((t + 1) * k) (show 0 < 2 * t + 1 by omega); unfold oddM; omega, iOddFn t k ht (by omega) B (B + 1) W (KC.out W (by rw [z3] at h; exact h)).1 (by rw [hn]; exact (KC.out W (by rw [z3] at h; exact h)).2.1)⟩⟩)
  rw [z3] at HS
  have HU := Lib.hid (fun x W (hx : x < n) => iupright n x n9 hx W)
  have UV : Hid (∀ x, trip (pt n x 0) (pt n x 1) (pt n x 2) = upN n x) := fun x => rfl
  have US : Hid (∀ x, upL n (x + 1) = upL n x ++ [upN n x]) := fun x => rfl
  have UL : Hid (∀ x, (upL n x).length = x) := fun x => upL_len n x
  have SL : Hid ((sl1 (blkI n (oddM t)) n).length ≤ 300) := by have := sl1_len (blkI n (oddM t)) n n9; unfold Hid; omega
  have HB := Lib.hid hB
  have BB := Lib.hid B3
  have Z3 := Lib.hid z3
  obtain ⟨L0, hL0⟩ : ∃ L, sl1 (blkI n (oddM t)) n = L := ⟨_, rfl⟩
  rw [hL0] at HS hOL SL
  have U00 : Hid (upL n 0 = []) := rfl
  obtain ⟨c0, c1, c2⟩ := KC.out w3 (Below.refl _ _)
  have c1' : w2.cell? ⟨B + 1, 0, none⟩ = some (.int .i64 n) := by rw [cell_of_row w2 (B + 1) 0 _ _ _ A2]; rfl
  have c0' : w1.cell? ⟨B, 0, none⟩ = some (.int .i64 t) := by rw [cell_of_row w1 B 0 _ _ _ A1]; rfl
  clear A1 A2 A3 A32 A31 b1 b12 b23 B3 hn hn2 m2 hL0
  go_enter Tryd.func31, Tryd.ntmps31
  go_wp2_with fail
  try rw [hw1]
  try rw [z1]
  try rw [hw2]
  try rw [z2]
  try rw [hw3]
  refine HS.out.mono ?_
  rintro e w4 ⟨v, rfl, hU, b4⟩
  obtain ⟨d0, d1, d2⟩ := KC.out w4 b4
  have B4 := Lib.hid b4
  have U4 : Hid (Us w4 (B + 3) v (L0 ++ upL n 0)) := by unfold Hid; rw [U00.out, List.append_nil]; exact hU
  clear hU b4 c0 c1 c2 c1' c0'
  go_wp2
  clear d0 d1 d2 hw1 hw2 hw3 z1 z2 z3 hB
  go_loopw [5, 16] (fun bv i wr => ∃ x : Nat, x ≤ n ∧ i = .int .i64 x ∧ Hid (Us wr (B + 3) bv (L0 ++ upL n x)) ∧ Hid (Below (B + 3) w3 wr)) (fun _ i _ => n - (intOf i).toNat)
  case atStart => exact ⟨0, by omega, rfl, U4, B4⟩
  case round =>
    obtain ⟨x, hx, rfl, hV, hBl⟩ := hrel
    by_cases c : x < n
    · have k1 : decide (x < n) = true := by simpa using c
      have k1' : decide ((x : Int) < (n : Int)) = true := decide_eq_true (by omega)
      have wx := IntWalk.i64_in ((x : Int) + 1) (by omega)
      obtain ⟨d0, d1, d2⟩ := KC.out wr hBl.out
      have HX := Lib.hid (HU.out x wr c)
      rw [UV.out] at HX
      have SJ : Hid (L0 ++ upL n (x + 1) = (L0 ++ upL n x) ++ [upN n x]) := by unfold Hid; rw [US.out, List.append_assoc]
      have LN : (L0 ++ upL n x).length < 1000000000000 := by rw [List.length_append, UL.out]; have := SL.out; omega
      obtain ⟨uv, huv⟩ : ∃ u, upN n x = u := ⟨_, rfl⟩
      rw [huv] at HX SJ
      have sz : B + 3 ≤ wr.heap.size := by have := hBl.out.size; have := Z3.out; omega
      clear huv
      go_wp2_with fail
      refine HX.out.mono ?_
      rintro e w5 ⟨rfl, b5⟩
      have V5 := Lib.hid (hV.out.below b5 (Nat.le_refl _))
      have B5 : Hid (Below (B + 3) w3 w5) := hBl.out.trans (b5.mono sz)
      have s5 : B + 3 ≤ w5.heap.size := by have := b5.size; omega
      clear b5 d0 d1 d2
      go_wp2_with (at_builtin; refine wpList_pushU w5 (by rfl) _ _ (by rfl) (B + 3) _ _ (by rfl) V5.out uv _ (by rfl) LN s5 ?_; intro v' w6 hn hb; have HN' := Lib.hid hn; have HB2 : Hid (Below (B + 3) w3 w6) := B5.out.trans hb; clear hn hb)
      go_roundw
      case rel => exact ⟨x + 1, by omega, by go_num, by unfold Hid; rw [SJ.out]; exact HN'.out, HB2⟩
      case measure => simp [intOf]; omega
    · have k1 : decide (x < n) = false := by simpa using c
      have k1' : decide ((x : Int) < (n : Int)) = false := decide_eq_false (by omega)
      obtain rfl : x = n := by omega
      go_wp2
      go_ret
      exact ⟨_, rfl, by rw [← hOL.out]; exact hV.out.mono (by have := HB.out; omega), by rw [HB.out]; exact BB.out.trans (hBl.out.mono (by omega))⟩
end

/-! The blocks of the made systems: evenTriples. -/
section
open Go.RowKit Go.Shelf
set_option linter.unusedVariables false
set_option linter.unusedSimpArgs false

theorem evenM_lt (t k : Nat) (h1 : 1 ≤ t) : evenM t k < 2 * t := by
  unfold evenM
  have := Nat.mod_lt k (show 0 < 2 * t by omega)
  split <;> omega
def evI (n t x i : Nat) : Nat := trip (3 * n) (pt n (x + t) i) (pt n x (i + 1))
def ev3 (n t x : Nat) : Nat → List Nat
  | 0 => []
  | i + 1 => ev3 n t x i ++ [evI n t x i]
def evU (n t : Nat) : Nat → List Nat
  | 0 => []
  | x + 1 => (evU n t x ++ [upN n x]) ++ ev3 n t x 3
theorem ev3_len (n t x : Nat) : ∀ i, (ev3 n t x i).length = i
  | 0 => rfl
  | i + 1 => by rw [ev3, List.length_append, ev3_len n t x i]; rfl
theorem evU_len (n t : Nat) : ∀ x, (evU n t x).length = 4 * x
  | 0 => rfl
  | x + 1 => by
    have : [upN n x].length = 1 := rfl
    rw [evU, List.length_append, List.length_append, evU_len n t x, ev3_len]; omega
def evenL (t : Nat) : List Nat := sl1 (blkI (2 * t) (evenM t)) (2 * t) ++ evU (2 * t) t t

set_option maxRecDepth 100000 in
set_option maxHeartbeats 2000000 in
theorem ieven (t : Nat) (h1 : 1 ≤ t) (ht : t ≤ 4) (w : World) :
    Calls Tryd.prog 30 #[.int .i64 t] w fun e w' => ∃ v, e = .returned v ∧ Us w' w.heap.size v (evenL t) ∧ Below w.heap.size w w' := by
  obtain ⟨B, hB⟩ : ∃ B, w.heap.size = B := ⟨_, rfl⟩
  have m2 : (2 : Int) * (t : Int) = ((2 * t : Nat) : Int) := by rw [Int.natCast_mul]; rfl
  have w9a : IntKind.i64.wrap ((2 : Int) * (t : Int)) = ((2 * t : Nat) : Int) := by rw [m2]; exact IntWalk.i64_in _ (by omega)
  obtain ⟨n, hn⟩ : ∃ n, 2 * t = n := ⟨_, rfl⟩
  have hOL : Hid (sl1 (blkI n (evenM t)) n ++ evU n t t = evenL t) := by unfold evenL; rw [hn]; exact rfl
  rw [hn] at w9a
  have m3 : (3 : Int) * (n : Int) = ((3 * n : Nat) : Int) := by rw [Int.natCast_mul]; rfl
  have w9c : IntKind.i64.wrap ((3 : Int) * (n : Int)) = ((3 * n : Nat) : Int) := by rw [m3]; exact IntWalk.i64_in _ (by omega)
  obtain ⟨l3, hl3⟩ : ∃ l, 3 * n = l := ⟨_, rfl⟩
  rw [hl3] at w9c
  have n9 : n ≤ 9 := by omega
  obtain ⟨w1, hw1⟩ : ∃ w1, w.alloc (.cells #[.int .i64 t] 2) = w1 := ⟨_, rfl⟩
  have z1 : w1.heap.size = B + 1 := by rw [← hw1, World.size_alloc, hB]
  have b1 : Below B w w1 := by rw [← hw1]; exact (Below.refl _ _).alloc (by omega) _
  have A1 : w1.heap[B]? = some (.cells #[.int .i64 t] 2 (0, 0)) := by rw [← hw1, ← hB]; exact heap_alloc_new _ _
  obtain ⟨w2, hw2⟩ : ∃ w2, w1.alloc (.cells #[.int .i64 n] 2) = w2 := ⟨_, rfl⟩
  have z2 : w2.heap.size = B + 2 := by rw [← hw2, World.size_alloc, z1]
  have b12 : Below (B + 1) w1 w2 := by rw [← hw2]; exact (Below.refl _ _).alloc (by omega) _
  have A2 : w2.heap[B + 1]? = some (.cells #[.int .i64 n] 2 (0, 0)) := by rw [← hw2, ← z1]; exact heap_alloc_new _ _
  obtain ⟨w3, hw3⟩ : ∃ w3, w2.alloc (.cells #[.int .i64 n] 82) = w3 := ⟨_, rfl⟩
  have z3 : w3.heap.size = B + 3 := by rw [← hw3, World.size_alloc, z2]
  have b23 : Below (B + 2) w2 w3 := by rw [← hw3]; exact (Below.refl _ _).alloc (by omega) _
  have A3 : w3.heap[B + 2]? = some (.cells #[.int .i64 n] 82 (0, 0)) := by rw [← hw3, ← z2]; exact heap_alloc_new _ _
  have A32 := (b23.block (B + 1) (by omega)).trans A2
  have A31 := (b23.block B (by omega)).trans ((b12.block B (by omega)).trans A1)
  have B3 : Below B w w3 := (b1.trans (b12.mono (by omega))).trans (b23.mono (by omega))
  have KC : Hid (∀ W, Below (B + 3) w3 W → W.cell? ⟨B, 0, none⟩ = some (.int .i64 t) ∧ W.cell? ⟨B + 1, 0, none⟩ = some (.int .i64 n) ∧ W.cell? ⟨B + 2, 0, none⟩ = some (.int .i64 n)) := fun W h =>
    ⟨by rw [h.cell (p := ⟨B, 0, none⟩) (by show B < B + 3; omega), cell_of_row w3 B 0 _ _ _ A31]; rfl, by rw [h.cell (p := ⟨B + 1, 0, none⟩) (by show B + 1 < B + 3; omega), cell_of_row w3 (B + 1) 0 _ _ _ A32]; rfl, by rw [h.cell (p := ⟨B + 2, 0, none⟩) (by show B + 2 < B + 3; omega), cell_of_row w3 (B + 2) 0 _ _ _ A3]; rfl⟩
  have hcf : ∀ args W, (callFunc 61 args).run Tryd.prog W = .ok (.enter 61 args) W := enters_of Tryd.func61 (by kernel_rfl) rfl
  have HS := Lib.hid (islanted n n9 (evenM t) w3 (.func (.func 61) #[] #[.pointer (some ⟨B + 1, 0, none⟩), .pointer (some ⟨B, 0, none⟩)])
    ⟨_, _, _, rfl, hcf, fun W k h hk => ⟨by have := evenM_lt t k h1; omega, iEvenFn t k h1 ht (by omega) (B + 1) B W (by rw [hn]; exact (KC.out W (by rw [z3] at h; exact h)).2.1) (KC.out W (by rw [z3] at h; exact h)).1⟩⟩)
  rw [z3] at HS
  have HU := Lib.hid (fun x W (hx : x < n) => iupright n x n9 hx W)
  have UV : Hid (∀ x, trip (pt n x 0) (pt n x 1) (pt n x 2) = upN n x) := fun x => rfl
  have HPt : Hid (∀ (x k : Nat) (W : World), x < n → k ≤ 4 → Calls Tryd.prog 64 #[.agg #[.int .i64 n], .int .i64 x, .int .i64 ((k : Nat) : Int)] W fun e w' => e = .returned (.int .i64 ((pt n x k : Nat) : Int)) ∧ Below W.heap.size W w') := fun x k W hx hk => ipoint n x k n9 hx hk W
  have HTr : Hid (∀ (x y z : Nat) (W : World), x < 27 → y < 27 → z < 27 → Calls Tryd.prog 63 #[.int .i64 x, .int .i64 y, .int .i64 z] W fun e w' => e = .returned (.int .u32 ((trip x y z : Nat) : Int)) ∧ w' = W) := fun x y z W hx hy hz => itriple x y z (by omega) (by omega) (by omega) W
  have PL : Hid (∀ x k, x < n → pt n x k < 27) := fun x k hx => pt_lt n9 hx
  have FV : Hid (∀ x i, trip l3 (pt n (x + t) i) (pt n x (i + 1)) = evI n t x i) := fun x i => by unfold evI; rw [hl3]
  have l27 : l3 < 27 := by omega
  have US : Hid (∀ x, evU n t (x + 1) = (evU n t x ++ [upN n x]) ++ ev3 n t x 3) := fun x => rfl
  have U3 : Hid (∀ x i, ev3 n t x (i + 1) = ev3 n t x i ++ [evI n t x i]) := fun x i => rfl
  have U30 : Hid (∀ x, ev3 n t x 0 = []) := fun x => rfl
  have UL : Hid (∀ x i, x ≤ 9 → i ≤ 3 → ((evU n t x ++ [upN n x]) ++ ev3 n t x i).length ≤ 100 ∧ (evU n t x).length ≤ 100) := fun x i h1 h2 => by
    rw [List.length_append, List.length_append, evU_len, ev3_len]
    exact ⟨by have : [upN n x].length = 1 := rfl
              omega, by omega⟩
  have SL : Hid ((sl1 (blkI n (evenM t)) n).length ≤ 300) := by have := sl1_len (blkI n (evenM t)) n n9; unfold Hid; omega
  have HB := Lib.hid hB
  have BB := Lib.hid B3
  have Z3 := Lib.hid z3
  obtain ⟨L0, hL0⟩ : ∃ L, sl1 (blkI n (evenM t)) n = L := ⟨_, rfl⟩
  rw [hL0] at HS hOL SL
  have U00 : Hid (evU n t 0 = []) := rfl
  obtain ⟨c0, c1, c2⟩ := KC.out w3 (Below.refl _ _)
  have c1' : w2.cell? ⟨B + 1, 0, none⟩ = some (.int .i64 n) := by rw [cell_of_row w2 (B + 1) 0 _ _ _ A2]; rfl
  have c0' : w1.cell? ⟨B, 0, none⟩ = some (.int .i64 t) := by rw [cell_of_row w1 B 0 _ _ _ A1]; rfl
  have tn : Hid (2 * t = n) := hn
  clear A1 A2 A3 A32 A31 b1 b12 b23 B3 hn m2 hL0 hl3 m3
  go_enter Tryd.func30, Tryd.ntmps30
  go_wp2_with fail
  try rw [hw1]
  try rw [z1]
  try rw [hw2]
  try rw [z2]
  try rw [hw3]
  refine HS.out.mono ?_
  rintro e w4 ⟨v, rfl, hU, b4⟩
  obtain ⟨d0, d1, d2⟩ := KC.out w4 b4
  have B4 := Lib.hid b4
  have U4 : Hid (Us w4 (B + 3) v (L0 ++ evU n t 0)) := by unfold Hid; rw [U00.out, List.append_nil]; exact hU
  clear hU b4 c0 c1 c2 c1' c0'
  go_wp2
  clear d0 d1 d2 hw1 hw2 hw3 z1 z2 z3 hB
  go_loopw [5, 19] (fun bv i wr => ∃ x : Nat, x ≤ t ∧ i = .int .i64 x ∧ Hid (Us wr (B + 3) bv (L0 ++ evU n t x)) ∧ Hid (Below (B + 3) w3 wr)) (fun _ i _ => t - (intOf i).toNat)
  case atStart => exact ⟨0, by omega, rfl, U4, B4⟩
  case round =>
    obtain ⟨x, hx, rfl, hV, hBl⟩ := hrel
    by_cases c : x < t
    · have k1 : decide (x < t) = true := by simpa using c
      have k1' : decide ((x : Int) < (t : Int)) = true := decide_eq_true (by omega)
      have wx := IntWalk.i64_in ((x : Int) + 1) (by omega)
      have xn : x < n := by have := tn.out; omega
      have xtn : x + t < n := by have := tn.out; omega
      obtain ⟨d0, d1, d2⟩ := KC.out wr hBl.out
      have HX := Lib.hid (HU.out x wr xn)
      rw [UV.out] at HX
      have LN : (L0 ++ evU n t x).length < 1000000000000 := by rw [List.length_append]; have := (UL.out x 0 (by omega) (by omega)).2; have := SL.out; omega
      have SJ0 := Lib.hid (US.out x)
      have S30 := Lib.hid (U30.out x)
      obtain ⟨uv, huv⟩ : ∃ u, upN n x = u := ⟨_, rfl⟩
      have LL : Hid (∀ i, i ≤ 3 → ((L0 ++ evU n t x) ++ ([uv] ++ ev3 n t x i)).length < 1000000000000) := fun i hi => by
        have a := (UL.out x i (by omega) hi).1
        rw [huv] at a
        rw [List.length_append, List.length_append] at a
        rw [List.length_append, List.length_append, List.length_append]
        have := SL.out
        omega
      rw [huv] at HX SJ0
      have SJ : Hid (L0 ++ evU n t (x + 1) = (L0 ++ evU n t x) ++ ([uv] ++ ev3 n t x 3)) := by unfold Hid; rw [SJ0.out, List.append_assoc, List.append_assoc]
      have SA : Hid (∀ i, (L0 ++ evU n t x) ++ ([uv] ++ ev3 n t x (i + 1)) = ((L0 ++ evU n t x) ++ ([uv] ++ ev3 n t x i)) ++ [evI n t x i]) := fun i => by rw [U3.out]; simp only [List.append_assoc]
      have sz : B + 3 ≤ wr.heap.size := by have := hBl.out.size; have := Z3.out; omega
      clear huv
      obtain ⟨wq, rfl⟩ : ∃ wq : World, wq = wr := ⟨_, rfl⟩
      go_wp2_with fail
      refine HX.out.mono ?_
      rintro e w5 ⟨rfl, b5⟩
      have V5 := Lib.hid (hV.out.below b5 (Nat.le_refl _))
      have B5 : Hid (Below (B + 3) w3 w5) := hBl.out.trans (b5.mono sz)
      have s5 : B + 3 ≤ w5.heap.size := by have := b5.size; omega
      clear b5 d0 d1 d2
      go_wp2_with (at_builtin; refine wpList_pushU w5 (by rfl) _ _ (by rfl) (B + 3) _ _ (by rfl) V5.out uv _ (by rfl) LN s5 ?_; intro v' w6 hn hb; have HN' := Lib.hid hn; have HB2 : Hid (Below (B + 3) w3 w6) := B5.out.trans hb; clear hn hb)
      have HN2 : Hid (Us w6 (B + 3) v' ((L0 ++ evU n t x) ++ ([uv] ++ ev3 n t x 0))) := by unfold Hid; rw [S30.out, List.append_nil]; exact HN'.out
      clear HN'
      go_loopw [5, 28] (fun bv i wr => ∃ j : Nat, j ≤ 3 ∧ i = .int .i64 j ∧ Hid (Us wr (B + 3) bv ((L0 ++ evU n t x) ++ ([uv] ++ ev3 n t x j))) ∧ Hid (Below (B + 3) w3 wr)) (fun _ i _ => 3 - (intOf i).toNat)
      case atStart => exact ⟨0, by omega, rfl, HN2, HB2⟩
      case round =>
        obtain ⟨j, hj, rfl, hV3, hBl3⟩ := hrel
        by_cases c3 : j < 3
        · have k3 : decide (j < 3) = true := by simpa using c3
          have k3' : decide ((j : Int) < 3) = true := decide_eq_true (by omega)
          have wj := IntWalk.i64_in ((j : Int) + 1) (by omega)
          have wxt := IntWalk.i64_in ((x : Int) + (t : Int)) (by omega)
          have P1 := Lib.hid (fun W => HPt.out (x + t) j W xtn (by omega))
          have P2 := Lib.hid (fun W => HPt.out x (j + 1) W xn (by omega))
          have TT := Lib.hid (fun W => HTr.out l3 (pt n (x + t) j) (pt n x (j + 1)) W l27 (PL.out (x + t) j xtn) (PL.out x (j + 1) xn))
          have FJ := FV.out x j
          rw [show (((j + 1 : Nat)) : Int) = (j : Int) + 1 from rfl] at P2
          rw [show (((x + t : Nat)) : Int) = (x : Int) + (t : Int) from rfl] at P1
          obtain ⟨p1, e1⟩ : ∃ q, pt n (x + t) j = q := ⟨_, rfl⟩
          obtain ⟨p2, e2⟩ : ∃ q, pt n x (j + 1) = q := ⟨_, rfl⟩
          rw [e1, e2] at FJ
          simp only [e1] at P1 TT
          simp only [e2] at P2 TT
          obtain ⟨tv, htv⟩ : ∃ q, trip l3 p1 p2 = q := ⟨_, rfl⟩
          simp only [htv] at TT
          rw [htv] at FJ
          have SJ3 : Hid ((L0 ++ evU n t x) ++ ([uv] ++ ev3 n t x (j + 1)) = ((L0 ++ evU n t x) ++ ([uv] ++ ev3 n t x j)) ++ [tv]) := by unfold Hid; rw [SA.out, ← FJ]
          have LN3 := LL.out j (by omega)
          clear e1 e2 htv FJ
          go_wp2
          obtain ⟨Y, hY⟩ : ∃ Y, wr.heap.size = Y := ⟨_, rfl⟩
          have YB : B + 3 ≤ Y := by have := hBl3.out.size; have := Z3.out; omega
          have D0 : Hid (Below Y wr wr.drew) := (Below.refl _ _).drew
          have KW : Hid (∀ W, Below Y wr W → W.cell? ⟨B, 0, none⟩ = some (.int .i64 t) ∧ W.cell? ⟨B + 1, 0, none⟩ = some (.int .i64 n) ∧ W.cell? ⟨B + 2, 0, none⟩ = some (.int .i64 n)) := fun W h => KC.out W (hBl3.out.trans (h.mono YB))
          have KT : Hid (∀ W W', Below Y wr W → Below W.heap.size W W' → Below Y wr W') := fun W W' h h' => h.trans (h'.mono (by have := h.size; omega))
          have hY' := Lib.hid hY
          clear hY
          refine wp_region_held_drew (S := fun w' => w'.cell? ⟨B, 0, none⟩ = some (.int .i64 t) ∧ w'.cell? ⟨B + 1, 0, none⟩ = some (.int .i64 n) ∧ w'.cell? ⟨B + 2, 0, none⟩ = some (.int .i64 n)) (by kernel_rfl) (KW.out _ D0.out) (fun hHeld => ?_)
          refine wpAnyH_take (i := 0) (oi := { dst := some 31, op := Op.move (Operand.tmp 5), type := 45, pos := "l11_triples.go:143", after := #[], guard := none }) (v := ?_) rfl (by kernel_rfl) (by kernel_rfl) (by kernel_rfl) (fun _ _ _ h => h) (Or.inl ⟨by rfl, ?_⟩) (by assumption) ?_
          rotate_left
          · intro w hSw; (try dsimp only at hSw); go_simp
            try with_reducible rfl
          simp only [Act.put, List.setIfInBounds_toArray, List.set_cons_zero, List.set_cons_succ]
          refine wpAnyH_take (i := 1) (oi := { dst := some 32, op := Op.move (Operand.tmp 6), type := 2, pos := "l11_triples.go:143", after := #[], guard := none }) (v := ?_) rfl (by kernel_rfl) (by kernel_rfl) (by kernel_rfl) (fun _ _ _ h => h) (Or.inl ⟨by rfl, ?_⟩) (by assumption) ?_
          rotate_left
          · intro w hSw; (try dsimp only at hSw); go_simp
            try with_reducible rfl
          simp only [Act.put, List.setIfInBounds_toArray, List.set_cons_zero, List.set_cons_succ]
          refine wpAnyH_take (i := 2) (oi := { dst := some 33, op := Op.load 82 (Operand.tmp 4), type := 82, pos := "l11_triples.go:143", after := #[], guard := none }) (v := ?_) rfl (by kernel_rfl) (by kernel_rfl) (by kernel_rfl) (fun _ _ _ h => h) (Or.inl ⟨by rfl, ?_⟩) (by assumption) ?_
          rotate_left
          · intro w hSw; (try dsimp only at hSw); go_simp
            try with_reducible rfl
          simp only [Act.put, List.setIfInBounds_toArray, List.set_cons_zero, List.set_cons_succ]
          refine wpAnyH_take (i := 3) (oi := { dst := some 34, op := Op.move (Operand.tmp 7), type := 2, pos := "l11_triples.go:143", after := #[], guard := none }) (v := ?_) rfl (by kernel_rfl) (by kernel_rfl) (by kernel_rfl) (fun _ _ _ h => h) (Or.inl ⟨by rfl, ?_⟩) (by assumption) ?_
          rotate_left
          · intro w hSw; (try dsimp only at hSw); go_simp
            try with_reducible rfl
          simp only [Act.put, List.setIfInBounds_toArray, List.set_cons_zero, List.set_cons_succ]
          refine wpAnyH_take (i := 4) (oi := { dst := some 35, op := Op.load 2 (Operand.tmp 1), type := 2, pos := "l11_triples.go:143", after := #[], guard := none }) (v := ?_) rfl (by kernel_rfl) (by kernel_rfl) (by kernel_rfl) (fun _ _ _ h => h) (Or.inl ⟨by rfl, ?_⟩) (by assumption) ?_
          rotate_left
          · intro w hSw; (try dsimp only at hSw); go_simp
            try with_reducible rfl
          simp only [Act.put, List.setIfInBounds_toArray, List.set_cons_zero, List.set_cons_succ]
          refine wpAnyH_take (i := 5) (oi := { dst := some 36, op := Op.binOp BinOp.add 2 (Operand.tmp 34) (Operand.tmp 35) 2, type := 2, pos := "l11_triples.go:143", after := #[{ on := 3, ground := Ground.data }, { on := 4, ground := Ground.data }], guard := none }) (v := ?_) rfl (by kernel_rfl) (by kernel_rfl) (by kernel_rfl) (fun _ _ _ h => h) (Or.inl ⟨by rfl, ?_⟩) (by assumption) ?_
          rotate_left
          · intro w hSw; (try dsimp only at hSw); go_simp
            try with_reducible rfl
          simp only [Act.put, List.setIfInBounds_toArray, List.set_cons_zero, List.set_cons_succ]
          refine wpAnyH_take (i := 6) (oi := { dst := some 37, op := Op.move (Operand.tmp 8), type := 2, pos := "l11_triples.go:143", after := #[], guard := none }) (v := ?_) rfl (by kernel_rfl) (by kernel_rfl) (by kernel_rfl) (fun _ _ _ h => h) (Or.inl ⟨by rfl, ?_⟩) (by assumption) ?_
          rotate_left
          · intro w hSw; (try dsimp only at hSw); go_simp
            try with_reducible rfl
          simp only [Act.put, List.setIfInBounds_toArray, List.set_cons_zero, List.set_cons_succ]
          refine wpAnyH_take (i := 8) (oi := { dst := some 39, op := Op.load 82 (Operand.tmp 4), type := 82, pos := "l11_triples.go:143", after := #[], guard := none }) (v := ?_) rfl (by kernel_rfl) (by kernel_rfl) (by kernel_rfl) (fun _ _ _ h => h) (Or.inl ⟨by rfl, ?_⟩) (by assumption) ?_
          rotate_left
          · intro w hSw; (try dsimp only at hSw); go_simp
            try with_reducible rfl
          simp only [Act.put, List.setIfInBounds_toArray, List.set_cons_zero, List.set_cons_succ]
          refine wpAnyH_take (i := 9) (oi := { dst := some 40, op := Op.move (Operand.tmp 7), type := 2, pos := "l11_triples.go:143", after := #[], guard := none }) (v := ?_) rfl (by kernel_rfl) (by kernel_rfl) (by kernel_rfl) (fun _ _ _ h => h) (Or.inl ⟨by rfl, ?_⟩) (by assumption) ?_
          rotate_left
          · intro w hSw; (try dsimp only at hSw); go_simp
            try with_reducible rfl
          simp only [Act.put, List.setIfInBounds_toArray, List.set_cons_zero, List.set_cons_succ]
          refine wpAnyH_take (i := 10) (oi := { dst := some 41, op := Op.move (Operand.tmp 8), type := 2, pos := "l11_triples.go:143", after := #[], guard := none }) (v := ?_) rfl (by kernel_rfl) (by kernel_rfl) (by kernel_rfl) (fun _ _ _ h => h) (Or.inl ⟨by rfl, ?_⟩) (by assumption) ?_
          rotate_left
          · intro w hSw; (try dsimp only at hSw); go_simp
            try with_reducible rfl
          simp only [Act.put, List.setIfInBounds_toArray, List.set_cons_zero, List.set_cons_succ]
          refine wpAnyH_take (i := 11) (oi := { dst := some 42, op := Op.binOp BinOp.add 2 (Operand.tmp 41) (Operand.const (Value.int IntKind.i64 1)) 2, type := 2, pos := "l11_triples.go:143", after := #[{ on := 10, ground := Ground.data }], guard := none }) (v := ?_) rfl (by kernel_rfl) (by kernel_rfl) (by kernel_rfl) (fun _ _ _ h => h) (Or.inl ⟨by rfl, ?_⟩) (by assumption) ?_
          rotate_left
          · intro w hSw; (try dsimp only at hSw); go_simp
            try with_reducible rfl
          simp only [Act.put, List.setIfInBounds_toArray, List.set_cons_zero, List.set_cons_succ]
          refine wpAnyH_ready (rs := [7]) (by kernel_rfl) (by simp) ?_
          refine AllReadyH.cons rfl (fun K' hK' => ?_) AllReadyH.nil
          go_simp
          go_wp2_with fail
          refine (P1.out _).mono ?_
          rintro e D1w ⟨rfl, hD1⟩
          have D1 := Lib.hid (KT.out _ _ D0.out hD1)
          refine hK'.out _ _ (KW.out _ D1.out) (fun hHeld => ?_)
          clear hK' K' hD1
          refine wpAnyH_ready (rs := [12]) (by kernel_rfl) (by simp) ?_
          refine AllReadyH.cons rfl (fun K' hK' => ?_) AllReadyH.nil
          go_simp
          go_wp2_with fail
          refine (P2.out _).mono ?_
          rintro e D3w ⟨rfl, hD3⟩
          have D3 := Lib.hid (KT.out _ _ D1.out hD3)
          refine hK'.out _ _ (KW.out _ D3.out) (fun hHeld => ?_)
          clear hK' K' hD3
          refine wpAnyH_ready (rs := [13]) (by kernel_rfl) (by simp) ?_
          refine AllReadyH.cons rfl (fun K' hK' => ?_) AllReadyH.nil
          go_simp
          go_wp2_with fail
          refine (TT.out _).mono ?_
          rintro e w8 ⟨rfl, ew⟩
          have ew := ew.symm
          subst ew
          refine hK'.out _ _ (KW.out _ D3.out) (fun hHeld => ?_)
          clear hK' K'
          have D4 : Hid (Below Y wr (D3w.alloc (.cells #[.int .u32 (tv : Nat)] 53))) := KT.out _ _ D3.out ((Below.refl _ _).alloc (Nat.le_refl _) _)
          have U3' := Lib.hid (hV3.out.below D3.out (Nat.le_of_eq hY'.out))
          have z3 : B + 3 ≤ D3w.heap.size := by have := D3.out.size; have := hY'.out; omega
          refine wpAnyH_ready (rs := [14]) (by kernel_rfl) (by simp) ?_
          refine AllReadyH.cons rfl (fun K' hK' => ?_) AllReadyH.nil
          go_simp
          refine hK'.out _ _ (KW.out _ D4.out) (fun hHeld => ?_)
          clear hK' K'
          refine wpAnyH_ready (rs := [15]) (by kernel_rfl) (by simp) ?_
          refine AllReadyH.cons rfl (fun K' hK' => ?_) AllReadyH.nil
          rw [if_pos (by rfl)]
          refine wp_pushU D3w _ _ (by rfl) (B + 3) _ _ (by rfl) U3'.out tv _ (by rfl) LN3 z3 ?_
          intro v' w9 hn hb
          have HN := Lib.hid hn
          have B9 : Hid (Below (B + 3) w3 w9) := (hBl3.out.trans (D3.out.mono YB)).trans hb
          clear hn hb
          simp only [Act.put, List.setIfInBounds_toArray, List.set_cons_zero, List.set_cons_succ]
          refine hK'.out _ _ (KC.out _ B9.out) (fun hHeld => ?_)
          clear hK' K'
          refine wpAnyH_take (i := 16) (oi := { dst := some 5, op := Op.assign (Operand.tmp 46), type := 45, pos := "l11_triples.go:143", after := #[{ on := 15, ground := Ground.data }, { on := 15, ground := Ground.chain }, { on := 0, ground := Ground.phase }, { on := 1, ground := Ground.phase }, { on := 2, ground := Ground.phase }, { on := 3, ground := Ground.phase }, { on := 4, ground := Ground.phase }, { on := 5, ground := Ground.phase }, { on := 6, ground := Ground.phase }, { on := 7, ground := Ground.phase }, { on := 8, ground := Ground.phase }, { on := 9, ground := Ground.phase }, { on := 10, ground := Ground.phase }, { on := 11, ground := Ground.phase }, { on := 12, ground := Ground.phase }, { on := 13, ground := Ground.phase }, { on := 14, ground := Ground.phase }, { on := 15, ground := Ground.phase }], guard := none }) (v := ?_) rfl (by kernel_rfl) (by kernel_rfl) (by kernel_rfl) (fun _ _ _ h => h) (Or.inl ⟨by rfl, ?_⟩) (by assumption) ?_
          rotate_left
          · intro w hSw; (try dsimp only at hSw); go_simp
            try with_reducible rfl
          simp only [Act.put, List.setIfInBounds_toArray, List.set_cons_zero, List.set_cons_succ]
          refine wpAnyH_done (by kernel_rfl) ?_ _
          clear hHeld
          go_wp2
          go_roundw
          case rel => exact ⟨j + 1, by omega, by go_num, by unfold Hid; rw [SJ3.out]; exact HN.out, B9⟩
          case measure => simp [intOf]; omega
        · have k3 : decide (j < 3) = false := by simpa using c3
          have k3' : decide ((j : Int) < 3) = false := decide_eq_false (by omega)
          obtain rfl : j = 3 := by omega
          go_wp2
          go_roundw
          case rel => exact ⟨x + 1, by omega, by go_num, by unfold Hid; rw [SJ.out]; exact hV3.out, hBl3⟩
          case measure => simp [intOf]; omega
    · have k1 : decide (x < t) = false := by simpa using c
      have k1' : decide ((x : Int) < (t : Int)) = false := decide_eq_false (by omega)
      obtain rfl : x = t := by omega
      go_wp2
      go_ret
      exact ⟨_, rfl, by rw [← hOL.out]; exact hV.out.mono (by have := HB.out; omega), by rw [HB.out]; exact BB.out.trans (hBl.out.mono (by omega))⟩
end
end

/-! triplesUnder: the program's. -/
section
open Go.RowKit Go.Shelf
set_option linter.unusedVariables false
set_option linter.unusedSimpArgs false

def tu1 (f : Nat → Nat → Int) (y : Nat) : Nat → List Nat
  | 0 => []
  | x + 1 => tu1 f y x ++ if (y : Int) < f x y then [trip x y (f x y).toNat] else []
def tu2 (f : Nat → Nat → Int) : Nat → List Nat
  | 0 => []
  | y + 1 => tu2 f y ++ tu1 f y y
theorem tu1_len (f : Nat → Nat → Int) (y : Nat) : ∀ x, (tu1 f y x).length ≤ x
  | 0 => Nat.le_refl _
  | x + 1 => by
    have := tu1_len f y x
    rw [tu1, List.length_append]
    split
    · simp only [List.length_cons, List.length_nil]; omega
    · simp only [List.length_nil]; omega
theorem tu2_len (f : Nat → Nat → Int) : ∀ y, y ≤ 10 → (tu2 f y).length ≤ 10 * y
  | 0, _ => Nat.le_refl _
  | y + 1, h => by
    have a := tu2_len f y (by omega)
    have b := tu1_len f y y
    rw [tu2, List.length_append]; omega

/-- What a function on pairs answers, reading what lies below B. -/
def ProdOk (w : World) (B : Nat) (s : Value) (n : Nat) (f : Nat → Nat → Int) : Prop :=
  ∃ fn fs cs, s = .func (.func fn) fs cs ∧ (∀ args W, (callFunc fn args).run Tryd.prog W = .ok (.enter fn args) W) ∧ ∀ (W : World) (x y : Nat), Below B w W → x < n → y < n → Calls Tryd.prog fn (fs ++ (#[.int .i64 x, .int .i64 y] ++ cs)) W fun e W' => e = .returned (.int .i64 (f x y)) ∧ Below W.heap.size W W'

set_option maxRecDepth 100000 in
set_option maxHeartbeats 4000000 in
theorem itriplesUnder (n : Nat) (hn : n ≤ 10) (w : World) (f : Nat → Nat → Int) (IQ : ∀ x y, x < n → y < n → 0 ≤ f x y ∧ f x y < n) (s : Value) (hs : ProdOk w w.heap.size s n f) :
    Calls Tryd.prog 49 #[.int .i64 n, s] w fun e w' => ∃ v, e = .returned v ∧ Us w' w.heap.size v (tu2 f n) ∧ Below w.heap.size w w' := by
  obtain ⟨fn, fs, cs, rfl, hcf, hc⟩ := hs
  obtain ⟨b, hb⟩ : ∃ b, w.heap.size = b := ⟨_, rfl⟩
  have HS := Lib.hid hc
  have HI := Lib.hid IQ
  have L1 := Lib.hid (fun y x => tu1_len f y x)
  have L2 := Lib.hid (fun y h => tu2_len f y h)
  have S1 : Hid (∀ y x z, f x y = ((z : Nat) : Int) → y < z → tu1 f y (x + 1) = tu1 f y x ++ [trip x y z]) := fun y x z h1 h2 => by
    rw [tu1, h1, if_pos (by omega), Int.toNat_natCast]
  have S2 : Hid (∀ y x z, f x y = ((z : Nat) : Int) → ¬ y < z → tu1 f y (x + 1) = tu1 f y x) := fun y x z h1 h2 => by
    rw [tu1, h1, if_neg (by omega), List.append_nil]
  have S3 : Hid (∀ y, tu2 f (y + 1) = tu2 f y ++ tu1 f y y) := fun y => rfl
  have S4 : Hid (∀ y, tu1 f y 0 = []) := fun y => rfl
  have HTr := Lib.hid (fun x y z W (hx : x < 32) (hy : y < 32) (hz : z < 32) => itriple x y z hx hy hz W)
  obtain ⟨g1, hg1⟩ : ∃ g, tu1 f = g := ⟨_, rfl⟩
  obtain ⟨g2, hg2⟩ : ∃ g, tu2 f = g := ⟨_, rfl⟩
  have S0 : Hid (g2 0 = []) := by rw [← hg2]; rfl
  simp only [hg1, hg2] at L1 L2 S1 S2 S3 S4 ⊢
  have U0 : Hid (Us w b (.slice none 0 0) (g2 0)) := by unfold Hid; rw [S0.out]; exact World.ownsRow_nil _ _ _ _
  have B0 : Hid (Below b w w) := Below.refl _ _
  rw [hb] at HS ⊢
  have HB := Lib.hid hb
  clear hc IQ hg1 hg2 hb
  go_enter Tryd.func49, Tryd.ntmps49
  go_wp2
  go_loopw [5, 10] (fun v i wr => ∃ y : Nat, y ≤ n ∧ i = .int .i64 y ∧ Hid (Us wr b v (g2 y)) ∧ Hid (Below b w wr)) (fun _ i _ => n - (intOf i).toNat)
  case atStart => exact ⟨0, by omega, rfl, U0, B0⟩
  case round =>
    obtain ⟨y, hy, rfl, hV, hBl⟩ := hrel
    by_cases c : y < n
    · have k1 : decide (y < n) = true := by simpa using c
      have k1' : decide ((y : Int) < (n : Int)) = true := decide_eq_true (by omega)
      have w3 := IntWalk.i64_in ((y : Int) + 1) (by omega)
      have U1 : Hid (Us wr b u5 (g2 y ++ g1 y 0)) := by unfold Hid; rw [S4.out, List.append_nil]; exact hV.out
      have l2 := L2.out y (by omega)
      obtain ⟨wq, rfl⟩ : ∃ wq : World, wq = wr := ⟨_, rfl⟩
      go_wp2
      go_loopw [5, 14] (fun v i wr => ∃ x : Nat, x ≤ y ∧ i = .int .i64 x ∧ Hid (Us wr b v (g2 y ++ g1 y x)) ∧ Hid (Below b w wr)) (fun _ i _ => y - (intOf i).toNat)
      case atStart => exact ⟨0, by omega, rfl, U1, hBl⟩
      case round =>
        obtain ⟨x, hx, rfl, hV2, hBl2⟩ := hrel
        by_cases c2 : x < y
        · have k2 : decide (x < y) = true := by simpa using c2
          have k2' : decide ((x : Int) < (y : Int)) = true := decide_eq_true (by omega)
          have w4 := IntWalk.i64_in ((x : Int) + 1) (by omega)
          have HC := Lib.hid (HS.out wr x y hBl2.out (by omega) c)
          have l1 := L1.out y x
          obtain ⟨i1, i2⟩ := HI.out x y (by omega) c
          obtain ⟨z, hz⟩ : ∃ z : Nat, f x y = (z : Int) := ⟨(f x y).toNat, by omega⟩
          have zn : z < n := by omega
          have T1 := Lib.hid (S1.out y x z hz)
          have T2 := Lib.hid (S2.out y x z hz)
          rw [hz] at HC
          have sz : b ≤ wr.heap.size := by have := hBl2.out.size; have := HB.out; omega
          clear i1 i2 hz
          obtain ⟨wq2, rfl⟩ : ∃ wq : World, wq = wr := ⟨_, rfl⟩
          by_cases c3 : y < z
          · have k3 : decide (y < z) = true := by simpa using c3
            have k3' : decide ((y : Int) < (z : Int)) = true := decide_eq_true (by omega)
            have k3'' : decide ((z : Int) > (y : Int)) = true := decide_eq_true (by omega)
            have TT := Lib.hid (fun W => HTr.out x y z W (by omega) (by omega) (by omega))
            have TS := Lib.hid (T1.out c3)
            obtain ⟨tv, htv⟩ : ∃ t, trip x y z = t := ⟨_, rfl⟩
            simp only [htv] at TT TS
            clear htv
            go_wp2_with fail
            refine HC.out.mono ?_
            rintro e w5 ⟨rfl, b5⟩
            have V5 := Lib.hid (hV2.out.below b5 (Nat.le_refl _))
            have B5 : Hid (Below b w w5) := hBl2.out.trans (b5.mono sz)
            have s5 : b ≤ w5.heap.size := by have := b5.size; omega
            have LN : (g2 y ++ g1 y x).length < 1000000000000 := by rw [List.length_append]; omega
            clear b5
            go_wp2_with fail
            refine (TT.out _).mono ?_
            rintro e w6 ⟨rfl, ew⟩
            subst ew
            go_wp2_with (at_builtin; refine wpList_pushU w6 (by rfl) _ _ (by rfl) b _ _ (by rfl) V5.out tv _ (by rfl) LN s5 ?_; intro v' w8 hn hb; have HN' := Lib.hid hn; have HB2 : Hid (Below b w w8) := B5.out.trans hb; clear hn hb)
            have HN : Hid (Us w8 b v' (g2 y ++ g1 y (x + 1))) := by unfold Hid; rw [TS.out, ← List.append_assoc]; exact HN'.out
            clear HN' V5
            go_roundw
            case rel => exact ⟨x + 1, by omega, by go_num, HN, HB2⟩
            case measure => simp [intOf]; omega
          · have k3 : decide (y < z) = false := by simpa using c3
            have k3' : decide ((y : Int) < (z : Int)) = false := decide_eq_false (by omega)
            have k3'' : decide ((z : Int) > (y : Int)) = false := decide_eq_false (by omega)
            have TS := Lib.hid (T2.out c3)
            go_wp2_with fail
            refine HC.out.mono ?_
            rintro e w5 ⟨rfl, b5⟩
            have V5 : Hid (Us w5 b u5 (g2 y ++ g1 y (x + 1))) := by unfold Hid; rw [TS.out]; exact hV2.out.below b5 (Nat.le_refl _)
            have B5 : Hid (Below b w w5) := hBl2.out.trans (b5.mono sz)
            clear b5
            go_wp2
            go_roundw
            case rel => exact ⟨x + 1, by omega, by go_num, V5, B5⟩
            case measure => simp [intOf]; omega
        · have k2 : decide (x < y) = false := by simpa using c2
          have k2' : decide ((x : Int) < (y : Int)) = false := decide_eq_false (by omega)
          obtain rfl : x = y := by omega
          go_wp2
          go_roundw
          case rel => exact ⟨x + 1, by omega, by go_num, by unfold Hid; rw [S3.out]; exact hV2.out, hBl2⟩
          case measure => simp [intOf]; omega
    · have k1 : decide (y < n) = false := by simpa using c
      have k1' : decide ((y : Int) < (n : Int)) = false := decide_eq_false (by omega)
      obtain rfl : y = n := by omega
      go_wp2
      go_ret
      exact ⟨_, rfl, hV.out, hBl.out⟩
end
end Go.Proofs.YtanfodbpgpfjmaaDoor
