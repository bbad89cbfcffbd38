/- Pairs of points: the numbers; the program's pairCounts. -/
import Derived.Test.YtdhlnagkhkcoiaaGreatDoorRpl
import Derived.Test.YtdhlnagkhkcoiaaGreatDoorApa
import Derived.Deep.MidRow
import Derived.Test.YtdhlnagkhkcoiaaGreatDoorHas
namespace Go.Proofs.YtdhlnagkhkcoiaaGreatDoor
open Go.RowKit Go.Shelf
set_option linter.unusedVariables false
set_option linter.unusedSimpArgs false

def seg (f : Nat → Nat → Nat) (a lo hi : Nat) : List Int := (List.range (hi - lo)).map (fun k => ((f a (lo + k) : Nat) : Int))
theorem seg_nil (f : Nat → Nat → Nat) (a lo : Nat) : seg f a lo lo = [] := by unfold seg; simp
theorem seg_succ (f : Nat → Nat → Nat) (a lo hi : Nat) (h : lo ≤ hi) : seg f a lo (hi + 1) = seg f a lo hi ++ [((f a hi : Nat) : Int)] := by
  unfold seg
  rw [show hi + 1 - lo = (hi - lo) + 1 by omega, List.range_succ, List.map_append]
  simp [show lo + (hi - lo) = hi by omega]
theorem seg_len (f : Nat → Nat → Nat) (a lo hi : Nat) : (seg f a lo hi).length = hi - lo := by unfold seg; simp
/-- The numbers of all pairs of points whose first one is below a. -/
def prA (n : Nat) (f : Nat → Nat → Nat) : Nat → List Int
  | 0 => []
  | a + 1 => prA n f a ++ seg f a (a + 1) n
theorem prA_len (n : Nat) (f : Nat → Nat → Nat) : ∀ a, (prA n f a).length ≤ a * n
  | 0 => by simp [prA]
  | a + 1 => by
    have := prA_len n f a
    rw [prA, List.length_append, seg_len, Nat.succ_mul]
    omega
theorem seg_congr {f h : Nat → Nat → Nat} (e : ∀ a b, f a b = h a b) : f = h := funext fun a => funext fun b => e a b
def prF (m : Nat) (P : Nat → Nat → Bool) (a b : Nat) : Nat := cnt m (fun i => P i a && P i b)
theorem prF_congr {m : Nat} {P Q : Nat → Nat → Bool} (h : ∀ i x, i < m → P i x = Q i x) : prF m P = prF m Q := seg_congr fun a b => cnt_congr fun i hi => by rw [h i a hi, h i b hi]
theorem rep_pair {n m x y : Nat} {S c : Nat → Nat} (h : Rep n (atP S m) c) (hx : x < n) (hy : y < n) (hm : m ≤ 128) :
    cnt 64 (fun i => (c (x * 2) &&& c (y * 2)).testBit i) + cnt 64 (fun i => (c (x * 2 + 1) &&& c (y * 2 + 1)).testBit i) = prF m (fun i x => (S i).testBit x) x y := by
  unfold prF
  rw [← cnt_cut hm, show 128 = 64 + 64 from rfl, cnt_add 64 _ 64]
  congr 1
  · refine cnt_congr fun i hi => ?_
    have a := (h x hx i (by omega)).2
    have b := (h y hy i (by omega)).2
    rw [show i / 64 = 0 by omega, show i % 64 = i by omega, Nat.add_zero, Nat.mul_comm] at a b
    rw [Nat.testBit_and, a, b]
    unfold atP
    cases decide (i < m) <;> rfl
  · refine cnt_congr fun i hi => ?_
    have a := (h x hx (64 + i) (by omega)).2
    have b := (h y hy (64 + i) (by omega)).2
    rw [show (64 + i) / 64 = 1 by omega, show (64 + i) % 64 = i by omega, Nat.mul_comm] at a b
    rw [Nat.testBit_and, a, b]
    unfold atP
    cases decide (64 + i < m) <;> rfl
theorem prF_le (m : Nat) (P : Nat → Nat → Bool) (a b : Nat) : prF m P a b ≤ m := cnt_le _ _

set_option maxRecDepth 100000 in
set_option maxHeartbeats 1000000 in
theorem imeet2 (a b a' b' : Nat) (ha : a < 18446744073709551616) (hb : b < 18446744073709551616) (ha' : a' < 18446744073709551616) (hb' : b' < 18446744073709551616) (w : World) :
    Calls Tryz.prog 113 #[.agg #[.int .u64 a, .int .u64 b], .agg #[.int .u64 a', .int .u64 b']] w fun e w' => e = .returned (.agg #[.int .u64 (a &&& a' : Nat), .int .u64 (b &&& b' : Nat)]) ∧ Below w.heap.size w w' := by
  have i0 : ∀ W : World, (Instr.index 140 (.agg #[.int .u64 a', .int .u64 b']) (.int .i64 0)).run Tryz.prog W = .ok (.int .u64 a') W := fun W => by kernel_rfl
  have i1 : ∀ W : World, (Instr.index 140 (.agg #[.int .u64 a', .int .u64 b']) (.int .i64 1)).run Tryz.prog W = .ok (.int .u64 b') W := fun W => by kernel_rfl
  have e1 := u64_and a a' ha ha'
  have e2 := u64_and b b' hb hb'
  obtain ⟨x, hx⟩ : ∃ x, a &&& a' = x := ⟨_, rfl⟩
  obtain ⟨y, hy⟩ : ∃ y, b &&& b' = y := ⟨_, rfl⟩
  rw [hx] at e1 ⊢
  rw [hy] at e2 ⊢
  clear hx hy ha hb ha' hb'
  go_enter Tryz.func113, Tryz.ntmps113
  go_wp2
  refine wp_loop_rounds 3 ?_
  rw [rounds_succ]
  go_wp2
  rw [rounds_succ]
  go_wp2
  rw [rounds_succ]
  go_wp2
  have R : (((w.alloc (.cells #[.int .u64 x, .int .u64 y] 140)).alloc (.cells #[.int .u64 a', .int .u64 b'] 140)).alloc (.cells #[.int .u64 x, .int .u64 y] 140)).heap[w.heap.size + 1 + 1]? = some (.cells #[.int .u64 x, .int .u64 y] 140 (0, 0)) := by
    have := heap_alloc_new ((w.alloc (.cells #[.int .u64 x, .int .u64 y] 140)).alloc (.cells #[.int .u64 a', .int .u64 b'] 140)) (.cells #[.int .u64 x, .int .u64 y] 140)
    rwa [World.size_alloc, World.size_alloc] at this
  refine bodyPost_ret (v := .agg #[.int .u64 x, .int .u64 y]) (results_cell_row Tryz.results113 _ _ _ _ _ _ _ rfl R Tryz.underlying140 rfl (by kernel_rfl)) rfl ⟨rfl, ?_⟩
  exact (((Below.refl w.heap.size w).alloc (Nat.le_refl _) _).alloc (by rw [World.size_alloc]; omega) _).alloc (by rw [World.size_alloc, World.size_alloc]; omega) _

/-- 'xs = append(xs, y)' at one operation of a region that draws. -/
theorem wp_pushI {o : Oper} {a : Act} {K : Act → World → Prop} {Q : Exit → Act → World → Prop} (w : World) (s x : Operand)
    (ho : o.op = .call { callee := .builtin .append, args := #[s, x], argTypes := #[40, 40] })
    (B : Nat) (v : Value) (xs : List Int) (hs : a.eval s = v) (h : Ints w B v xs) (y : Int) (T : TypeId) (hx : a.eval x = .slice (some ⟨w.heap.size, 0, none⟩) 1 1)
    (hl : xs.length < 1000000000000) (hB : B ≤ w.heap.size)
    (hK : ∀ v' w', Ints w' B v' (xs ++ [y]) → Below B w w' → K (a.put o.dst v') w') :
    o.wp Tryz.prog a (w.alloc (.cells #[.int .i64 y] T)) K Q := by
  obtain ⟨i0, hi0, hz0, hz1, hz2⟩ := info_parts Tryz.infoInt
  refine wp_append_at _ s x 40 ho B 2 i0 (.int .i64 0) 1 8 Tryz.underlying40 hi0 hz0 hz1 hz2 rfl (by decide) v xs.length _ hs (h.alloc _) ⟨w.heap.size, 0, none⟩ 1 1 [.int .i64 y] hx rfl ?c1 ?c2 ?c3 ?c4 ?c5 ?_
  case c1 =>
    intro j u hj
    match j, hj with
    | 0, hj => simp at hj; subst hj; simp [Addr.add]
  case c2 => intro u hu; simp at hu; subst hu; rfl
  case c3 => unfold maxLen; omega
  case c4 => omega
  case c5 => simp; omega
  intro v' w' h' hg hat
  refine hK v' w' ?_ ?_
  · unfold Ints
    rw [List.length_append, List.map_append]
    exact h'
  · exact ((Below.refl _ _).alloc hB _).grown hg (by simp; omega) (fun k hk => (World.ownsRow.lt h k hk).1)

set_option maxRecDepth 100000 in
set_option maxHeartbeats 2000000 in
theorem ipairs (n m : Nat) (h1 : 1 ≤ n) (h32 : n ≤ 32) (hm : m ≤ 128) (S : Nat → Nat) (g : Nat) (w : World) (hU : Ub w g m S) (hS : ∀ i, i < m → S i < 4294967296) (hP : ∀ i, i < m → ∀ k, (S i).testBit k = true → k < n) (ht : Tab w) :
    Calls Tryz.prog 87 #[.agg #[.int .i64 (n : Int), .slice (some ⟨g, 0, none⟩) m m]] w fun e w' => ∃ v, e = .returned v ∧ Ints w' w.heap.size v (prA n (prF m (fun i x => (S i).testBit x)) n) ∧ Below w.heap.size w w' := by
  obtain ⟨B, hB⟩ : ∃ B, w.heap.size = B := ⟨_, rfl⟩
  have hpos : 0 < B := by rw [← hB]; exact ht.pos
  have lg : g < B := by rw [← hB]; exact hU.lt
  obtain ⟨w1, hw1⟩ : ∃ w1, w.alloc (.cells #[.int .i64 (n : Int), .slice (some ⟨g, 0, none⟩) m m] 45) = w1 := ⟨_, rfl⟩
  have z1 : w1.heap.size = B + 1 := by rw [← hw1, World.size_alloc, hB]
  have b1 : Below B w w1 := by rw [← hw1]; exact (Below.refl _ _).alloc (by omega) _
  have A1 : w1.heap[B]? = some (.cells #[.int .i64 (n : Int), .slice (some ⟨g, 0, none⟩) m m] 45 (0, 0)) := by rw [← hw1, ← hB]; exact heap_alloc_new _ _
  have c1 : w1.cell? ⟨B, 0, none⟩ = some (.int .i64 (n : Int)) := by rw [cell_of_row w1 B 0 _ _ _ A1]; rfl
  have c2 : w1.cell? ⟨B, 1, none⟩ = some (.slice (some ⟨g, 0, none⟩) m m) := by rw [cell_of_row w1 B 1 _ _ _ A1]; rfl
  have HA := Lib.hid (iAt n m h1 h32 hm S g w1 (hU.below b1 lg) hS hP (ht.below b1 hpos))
  rw [z1] at HA
  have RC := Lib.hid (fun c (h : Rep n (atP S m) c) x y (hx : x < n) (hy : y < n) => rep_pair h hx hy hm)
  have RB := Lib.hid (fun c (h : Rep n (atP S m) c) x (hx : x < n) => And.intro (show c (x * 2) < 18446744073709551616 from by have := (h x hx 0 (by omega)).1; rwa [Nat.zero_div, Nat.add_zero, Nat.mul_comm] at this) (show c (x * 2 + 1) < 18446744073709551616 from by have := (h x hx 64 (by omega)).1; rwa [show 64 / 64 = 1 from rfl, Nat.mul_comm] at this))
  have FL := Lib.hid (fun a b => prF_le m (fun i x => (S i).testBit x) a b)
  obtain ⟨f, hf⟩ : ∃ f, prF m (fun i x => (S i).testBit x) = f := ⟨_, rfl⟩
  simp only [hf] at RC FL ⊢
  have SS := Lib.hid (fun a lo hi h => seg_succ f a lo hi h)
  have SN := Lib.hid (fun a lo => seg_nil f a lo)
  have PS : Hid (∀ a, prA n f (a + 1) = prA n f a ++ seg f a (a + 1) n) := fun a => rfl
  have PZ : Hid (prA n f 0 = []) := rfl
  have LN : Hid (∀ a b, a < n → b ≤ n → (prA n f a ++ seg f a (a + 1) b).length < 1000000000000) := fun a b ha hb => by
    have l1 := prA_len n f a
    have l2 := seg_len f a (a + 1) b
    have l3 : a * n ≤ 32 * 32 := Nat.mul_le_mul (by omega) h32
    rw [List.length_append]; omega
  have HB := Lib.hid hB
  have B1 := Lib.hid b1
  clear hU hS hP ht b1 A1 lg hpos hf
  go_enter Tryz.func87, Tryz.ntmps87
  go_wp2_with fail
  try rw [hw1]
  refine HA.out.mono ?_
  rintro e w3 ⟨g2, c, rfl, hg2, hW, hR, b3⟩
  have R3 := Lib.hid hR
  have B3 : Hid (Below B w w3) := B1.out.trans (b3.mono (by omega))
  have z3 : g2 < w3.heap.size := hW.lt
  -- what stays: the words at each point
  obtain ⟨K, hK⟩ : ∃ K : World → Prop, K = fun W => Wb W g2 (n * 2) c ∧ Below B w W ∧ g2 + 1 ≤ W.heap.size := ⟨_, rfl⟩
  have K3 : Hid (K w3) := by rw [hK]; exact ⟨hW, B3.out, z3⟩
  have KN : Hid (∀ (b : Nat) (W W' : World), g2 + 1 ≤ b → Below b W W' → Hid (K W) → Hid (K W')) := fun b W W' hb bb h => by
    rw [hK] at h ⊢
    exact ⟨h.out.1.below bb (by omega), h.out.2.1.trans (bb.mono (by omega)), Nat.le_trans h.out.2.2 bb.size⟩
  have KO : Hid (∀ W, Hid (K W) → Below B w W ∧ g2 + 1 ≤ W.heap.size) := fun W h => by rw [hK] at h; exact h.out.2
  have KC : Hid (∀ W x, Hid (K W) → x < n → W.cell? ⟨g2, x * 2, none⟩ = some (.int .u64 (c (x * 2) : Nat)) ∧ W.cell? ⟨g2, x * 2 + 1, none⟩ = some (.int .u64 (c (x * 2 + 1) : Nat))) := fun W x h hx => by
    rw [hK] at h; exact ⟨h.out.1.cell _ (by omega), h.out.1.cell _ (by omega)⟩
  have I0 : Hid (Ints w3 (g2 + 1) (.slice none 0 0) (prA n f 0)) := by rw [PZ.out]; exact nilI _ _
  clear hw1 c1 c2 hB z1 hW hR b3 HA hK B3 z3 B1
  go_wp2
  go_loopw [3, 11] (fun rv i wr => ∃ x : Nat, x ≤ n ∧ i = .int .i64 x ∧ Hid (Ints wr (g2 + 1) rv (prA n f x)) ∧ Hid (K wr)) (fun _ i _ => n - (intOf i).toNat)
  case atStart => exact ⟨0, by omega, rfl, I0, K3⟩
  case round =>
    obtain ⟨x, hx, rfl, hI, hKw⟩ := hrel
    by_cases cx : x < n
    · have k1 : decide (x < n) = true := by simpa using cx
      have k1' : decide ((x : Int) < (n : Int)) = true := decide_eq_true (by omega)
      have w3' := IntWalk.i64_in ((x : Int) + 1) (by omega)
      have x0 : (0 : Int) ≤ (x : Int) := by omega
      have x1 : (x : Int) < (n : Int) := by omega
      have I1 : Hid (Ints wr (g2 + 1) u3 (prA n f x ++ seg f x (x + 1) (x + 1))) := by rw [SN.out, List.append_nil]; exact hI
      obtain ⟨wq, rfl⟩ : ∃ wq : World, wq = wr := ⟨_, rfl⟩
      go_wp2
      go_loopw [3, 6] (fun rv i wr => ∃ y : Nat, x + 1 ≤ y ∧ y ≤ n ∧ i = .int .i64 y ∧ Hid (Ints wr (g2 + 1) rv (prA n f x ++ seg f x (x + 1) y)) ∧ Hid (K wr)) (fun _ i _ => n - (intOf i).toNat)
      case atStart => exact ⟨x + 1, by omega, by omega, by go_num, I1, hKw⟩
      case round =>
        obtain ⟨y, hy1, hy, rfl, hI2, hK2⟩ := hrel
        by_cases cy : y < n
        · have k2 : decide (y < n) = true := by simpa using cy
          have k2' : decide ((y : Int) < (n : Int)) = true := decide_eq_true (by omega)
          have w4' := IntWalk.i64_in ((y : Int) + 1) (by omega)
          have y0 : (0 : Int) ≤ (y : Int) := by omega
          have y1 : (y : Int) < (n : Int) := by omega
          have zr := (KO.out wr hK2).2
          have KD := KN.out _ wr wr.drew zr (Below.refl _ _).drew hK2
          obtain ⟨m1, m2⟩ := KC.out wr.drew x KD cx
          obtain ⟨m3, m4⟩ := KC.out wr.drew y KD cy
          obtain ⟨q1, q2⟩ := RB.out c R3.out x cx
          obtain ⟨q3, q4⟩ := RB.out c R3.out y cy
          have HF := RC.out c R3.out x y cx cy
          have fl := FL.out x y
          have SY := Lib.hid (SS.out x (x + 1) y hy1)
          obtain ⟨a, ha⟩ : ∃ a, c (x * 2) = a := ⟨_, rfl⟩
          obtain ⟨b, hb⟩ : ∃ b, c (x * 2 + 1) = b := ⟨_, rfl⟩
          obtain ⟨a', ha'⟩ : ∃ a, c (y * 2) = a := ⟨_, rfl⟩
          obtain ⟨b', hb'⟩ : ∃ b, c (y * 2 + 1) = b := ⟨_, rfl⟩
          rw [ha] at m1 q1 HF
          rw [hb] at m2 q2 HF
          rw [ha'] at m3 q3 HF
          rw [hb'] at m4 q4 HF
          have HM := Lib.hid (fun W => imeet2 a b a' b' q1 q2 q3 q4 W)
          have HZ := Lib.hid (fun W => isize2 (a &&& a') (b &&& b') (Nat.lt_of_le_of_lt Nat.and_le_left q1) (Nat.lt_of_le_of_lt Nat.and_le_left q2) W)
          rw [HF] at HZ
          obtain ⟨v, hv⟩ : ∃ v, f x y = v := ⟨_, rfl⟩
          rw [hv] at HZ SY fl
          have LL := LN.out x y cx (by omega)
          obtain ⟨wd, hwd⟩ : ∃ wd, wr.drew = wd := ⟨_, rfl⟩
          have IM : Hid (Ints wr.drew (g2 + 1) u3 (prA n f x ++ seg f x (x + 1) y)) := hI2
          rw [hwd] at m1 m2 m3 m4 KD IM
          have zd : g2 + 1 ≤ wd.heap.size := by rw [← hwd]; exact zr
          have KEY : Hid (∀ W, Hid (K W) → W.cell? ⟨g2, x * 2, none⟩ = some (.int .u64 (a : Nat)) ∧ W.cell? ⟨g2, x * 2 + 1, none⟩ = some (.int .u64 (b : Nat)) ∧ W.cell? ⟨g2, y * 2, none⟩ = some (.int .u64 (a' : Nat)) ∧ W.cell? ⟨g2, y * 2 + 1, none⟩ = some (.int .u64 (b' : Nat)) ∧ Hid (K W)) := fun W h => by
            obtain ⟨q1, q2⟩ := KC.out W x h cx
            obtain ⟨q3, q4⟩ := KC.out W y h cy
            rw [ha] at q1
            rw [hb] at q2
            rw [ha'] at q3
            rw [hb'] at q4
            exact ⟨q1, q2, q3, q4, h⟩
          clear ha hb ha' hb' hv q1 q2 q3 q4 HF hI hI2 m1 m2 m3 m4
          go_wp2
          refine wp_region_held_drew (S := fun W => W.cell? ⟨g2, x * 2, none⟩ = some (.int .u64 (a : Nat)) ∧ W.cell? ⟨g2, x * 2 + 1, none⟩ = some (.int .u64 (b : Nat)) ∧ W.cell? ⟨g2, y * 2, none⟩ = some (.int .u64 (a' : Nat)) ∧ W.cell? ⟨g2, y * 2 + 1, none⟩ = some (.int .u64 (b' : Nat)) ∧ Hid (K W)) (by kernel_rfl) (KEY.out _ (by rw [hwd]; exact KD)) (fun hHeld => ?_)
          refine wpAnyH_take (i := 0) (oi := { dst := some 22, op := Op.move (Operand.tmp 3), type := 40, pos := "l10_designs.go:184", after := #[], guard := none }) (v := ?_) rfl (by kernel_rfl) (by kernel_rfl) (by kernel_rfl) (fun _ _ _ h => h) (Or.inl ⟨by rfl, ?_⟩) (by assumption) ?_
          rotate_left
          · intro w hSw; (try dsimp only at hSw); go_simp
            try with_reducible rfl
          simp only [Act.put, List.setIfInBounds_toArray, List.set_cons_zero, List.set_cons_succ]
          refine wpAnyH_take (i := 1) (oi := { dst := some 23, op := Op.move (Operand.tmp 4), type := 137, pos := "l10_designs.go:184", after := #[], guard := none }) (v := ?_) rfl (by kernel_rfl) (by kernel_rfl) (by kernel_rfl) (fun _ _ _ h => h) (Or.inl ⟨by rfl, ?_⟩) (by assumption) ?_
          rotate_left
          · intro w hSw; (try dsimp only at hSw); go_simp
            try with_reducible rfl
          simp only [Act.put, List.setIfInBounds_toArray, List.set_cons_zero, List.set_cons_succ]
          refine wpAnyH_take (i := 2) (oi := { dst := some 24, op := Op.move (Operand.tmp 5), type := 3, pos := "l10_designs.go:184", after := #[], guard := none }) (v := ?_) rfl (by kernel_rfl) (by kernel_rfl) (by kernel_rfl) (fun _ _ _ h => h) (Or.inl ⟨by rfl, ?_⟩) (by assumption) ?_
          rotate_left
          · intro w hSw; (try dsimp only at hSw); go_simp
            try with_reducible rfl
          simp only [Act.put, List.setIfInBounds_toArray, List.set_cons_zero, List.set_cons_succ]
          refine wpAnyH_take (i := 3) (oi := { dst := some 25, op := Op.indexAddr 137 (Operand.tmp 23) (Operand.tmp 24), type := 0, pos := "l10_designs.go:184", after := #[{ on := 1, ground := Ground.data }, { on := 2, ground := Ground.data }], guard := none }) (v := ?_) rfl (by kernel_rfl) (by kernel_rfl) (by kernel_rfl) (fun _ _ _ h => h) (Or.inl ⟨by rfl, ?_⟩) (by assumption) ?_
          rotate_left
          · intro w hSw; (try dsimp only at hSw); go_simp
            try with_reducible rfl
          simp only [Act.put, List.setIfInBounds_toArray, List.set_cons_zero, List.set_cons_succ]
          refine wpAnyH_take (i := 4) (oi := { dst := some 26, op := Op.load 140 (Operand.tmp 25), type := 140, pos := "l10_designs.go:184", after := #[{ on := 3, ground := Ground.data }], guard := none }) (v := ?_) rfl (by kernel_rfl) (by kernel_rfl) (by kernel_rfl) (fun _ _ _ h => h) (Or.inl ⟨by rfl, ?_⟩) (by assumption) ?_
          rotate_left
          · intro w hSw; (try dsimp only at hSw); go_simp
            try with_reducible rfl
          simp only [Act.put, List.setIfInBounds_toArray, List.set_cons_zero, List.set_cons_succ]
          refine wpAnyH_take (i := 5) (oi := { dst := some 27, op := Op.move (Operand.tmp 4), type := 137, pos := "l10_designs.go:184", after := #[], guard := none }) (v := ?_) rfl (by kernel_rfl) (by kernel_rfl) (by kernel_rfl) (fun _ _ _ h => h) (Or.inl ⟨by rfl, ?_⟩) (by assumption) ?_
          rotate_left
          · intro w hSw; (try dsimp only at hSw); go_simp
            try with_reducible rfl
          simp only [Act.put, List.setIfInBounds_toArray, List.set_cons_zero, List.set_cons_succ]
          refine wpAnyH_take (i := 6) (oi := { dst := some 28, op := Op.move (Operand.tmp 6), type := 3, pos := "l10_designs.go:184", after := #[], guard := none }) (v := ?_) rfl (by kernel_rfl) (by kernel_rfl) (by kernel_rfl) (fun _ _ _ h => h) (Or.inl ⟨by rfl, ?_⟩) (by assumption) ?_
          rotate_left
          · intro w hSw; (try dsimp only at hSw); go_simp
            try with_reducible rfl
          simp only [Act.put, List.setIfInBounds_toArray, List.set_cons_zero, List.set_cons_succ]
          refine wpAnyH_take (i := 7) (oi := { dst := some 29, op := Op.indexAddr 137 (Operand.tmp 27) (Operand.tmp 28), type := 0, pos := "l10_designs.go:184", after := #[{ on := 5, ground := Ground.data }, { on := 6, ground := Ground.data }], guard := none }) (v := ?_) rfl (by kernel_rfl) (by kernel_rfl) (by kernel_rfl) (fun _ _ _ h => h) (Or.inl ⟨by rfl, ?_⟩) (by assumption) ?_
          rotate_left
          · intro w hSw; (try dsimp only at hSw); go_simp
            try with_reducible rfl
          simp only [Act.put, List.setIfInBounds_toArray, List.set_cons_zero, List.set_cons_succ]
          refine wpAnyH_take (i := 8) (oi := { dst := some 30, op := Op.load 140 (Operand.tmp 29), type := 140, pos := "l10_designs.go:184", after := #[{ on := 7, ground := Ground.data }], guard := none }) (v := ?_) rfl (by kernel_rfl) (by kernel_rfl) (by kernel_rfl) (fun _ _ _ h => h) (Or.inl ⟨by rfl, ?_⟩) (by assumption) ?_
          rotate_left
          · intro w hSw; (try dsimp only at hSw); go_simp
            try with_reducible rfl
          simp only [Act.put, List.setIfInBounds_toArray, List.set_cons_zero, List.set_cons_succ]
          refine wpAnyH_ready (rs := [9]) (by kernel_rfl) (by simp) ?_
          refine AllReadyH.cons rfl (fun K' hK' => ?_) AllReadyH.nil
          go_simp
          try rw [hwd]
          clear hwd
          go_wp2_with fail
          refine (HM.out _).mono ?_
          rintro e w5 ⟨rfl, b5⟩
          have K5 := KN.out _ _ _ zd b5 KD
          have I5 := Lib.hid (IM.out.below b5 (Nat.le_refl _))
          clear b5
          refine hK'.out _ _ (KEY.out _ K5) (fun hHeld => ?_)
          clear hK' K'
          refine wpAnyH_ready (rs := [10]) (by kernel_rfl) (by simp) ?_
          refine AllReadyH.cons rfl (fun K' hK' => ?_) AllReadyH.nil
          go_simp
          go_wp2_with fail
          refine (HZ.out _).mono ?_
          rintro e w6 ⟨rfl, b6⟩
          have K6 := KN.out _ _ _ (KO.out _ K5).2 b6 K5
          have I6 := Lib.hid (I5.out.below b6 (Nat.le_refl _))
          have z6 := (KO.out _ K6).2
          clear b6
          refine hK'.out _ _ (KEY.out _ K6) (fun hHeld => ?_)
          clear hK' K'
          have K7 : Hid (K (w6.alloc (.cells #[.int .i64 (v : Int)] 2))) := KN.out _ _ _ z6 ((Below.refl _ _).alloc (Nat.le_refl _) _) K6
          refine wpAnyH_ready (rs := [11]) (by kernel_rfl) (by simp) ?_
          refine AllReadyH.cons rfl (fun K' hK' => ?_) AllReadyH.nil
          go_simp
          refine hK'.out _ _ (KEY.out _ K7) (fun hHeld => ?_)
          clear hK' K'
          refine wpAnyH_ready (rs := [12]) (by kernel_rfl) (by simp) ?_
          refine AllReadyH.cons rfl (fun K' hK' => ?_) AllReadyH.nil
          rw [if_pos (by rfl)]
          refine wp_pushI w6 _ _ (by rfl) (g2 + 1) _ _ (by rfl) I6.out (v : Int) _ (by rfl) LL z6 ?_
          intro v' w8 hn hb
          have HN := Lib.hid hn
          have HB8 := Lib.hid hb
          have K8 := KN.out _ _ _ (Nat.le_refl _) hb K6
          clear hn hb
          simp only [Act.put, List.setIfInBounds_toArray, List.set_cons_zero, List.set_cons_succ]
          refine hK'.out _ _ (KEY.out _ K8) (fun hHeld => ?_)
          clear hK' K'
          refine wpAnyH_take (i := 13) (oi := { dst := some 3, op := Op.assign (Operand.tmp 34), type := 40, pos := "l10_designs.go:184", after := #[{ on := 12, ground := Ground.data }, { on := 12, ground := Ground.chain }, { on := 0, ground := Ground.phase }, { on := 1, ground := Ground.phase }, { on := 2, ground := Ground.phase }, { on := 3, ground := Ground.phase }, { on := 4, ground := Ground.phase }, { on := 5, ground := Ground.phase }, { on := 6, ground := Ground.phase }, { on := 7, ground := Ground.phase }, { on := 8, ground := Ground.phase }, { on := 9, ground := Ground.phase }, { on := 10, ground := Ground.phase }, { on := 11, ground := Ground.phase }, { on := 12, ground := Ground.phase }], guard := none }) (v := ?_) rfl (by kernel_rfl) (by kernel_rfl) (by kernel_rfl) (fun _ _ _ h => h) (Or.inl ⟨by rfl, ?_⟩) (by assumption) ?_
          rotate_left
          · intro w hSw; (try dsimp only at hSw); go_simp
            try with_reducible rfl
          simp only [Act.put, List.setIfInBounds_toArray, List.set_cons_zero, List.set_cons_succ]
          refine wpAnyH_done (by kernel_rfl) ?_ _
          clear hHeld
          go_wp2
          go_roundw
          case rel => exact ⟨y + 1, by omega, by omega, by go_num, by unfold Hid; rw [SY.out, ← List.append_assoc]; exact HN.out, KN.out _ _ _ (Nat.le_refl _) HB8.out K6⟩
          case measure => simp [intOf]; omega
        · have k2 : decide (y < n) = false := by simpa using cy
          have k2' : decide ((y : Int) < (n : Int)) = false := decide_eq_false (by omega)
          obtain rfl : y = n := by omega
          rw [← PS.out] at hI2
          go_wp2
          go_roundw
          case rel => exact ⟨x + 1, by omega, by go_num, hI2, hK2⟩
          case measure => simp [intOf]; omega
    · have k1 : decide (x < n) = false := by simpa using cx
      have k1' : decide ((x : Int) < (n : Int)) = false := decide_eq_false (by omega)
      obtain rfl : x = n := by omega
      go_wp2
      go_ret
      exact ⟨_, rfl, hI.out.mono (by have := HB.out; omega), by rw [HB.out]; exact (KO.out _ hKw).1⟩

/-! Pairs of points: the model. -/
section
open Go.RowKit Go.Shelf
set_option linter.unusedVariables false
set_option linter.unusedSimpArgs false

set_option maxRecDepth 100000 in
set_option maxHeartbeats 2000000 in
theorem sPairs (n : Nat) (h1 : 1 ≤ n) (h32 : n ≤ 32) (xss : List (List Int)) (hm : xss.length ≤ 128) (w : World) (v : Value) (g : Nat) (c0 : w.cell? ⟨g, 0, none⟩ = some (.int .i64 (n : Int))) (c1 : w.cell? ⟨g, 1, none⟩ = some v) (hv : RowsAt w v xss) :
    Calls Tryz.prog 63 #[.pointer (some ⟨g, 0, none⟩)] w fun e w' => ∃ r, e = .returned r ∧ Ints w' w.heap.size r (prA n (prF xss.length (memP xss)) n) ∧ Below w.heap.size w w' := by
  obtain ⟨a, cap, rfl, K⟩ := hv.rowsIn
  obtain ⟨m, hmm⟩ : ∃ m, xss.length = m := ⟨_, rfl⟩
  obtain ⟨B, hB⟩ : ∃ B, w.heap.size = B := ⟨_, rfl⟩
  rw [hmm] at c1 K hm ⊢
  rw [hB] at K
  have lg : g < B := by rw [← hB]; exact World.block_lt_of_cell? w _ c0
  have HO : Hid (Ints (w.alloc (.cells #[] 2)) B (.slice (some ⟨B, 0, none⟩) 0 0) (prA n (prF m (memP xss)) 0)) := by
    rw [← hB]; exact World.ownsRow_made w #[] 0 (Nat.le_refl _) (by decide) rfl
  obtain ⟨w1, hw1⟩ : ∃ w1, w.alloc (.cells #[] 2) = w1 := ⟨_, rfl⟩
  have z1 : w1.heap.size = B + 1 := by rw [← hw1, World.size_alloc, hB]
  have B1 : Hid (Below B w w1) := by unfold Hid; rw [← hw1]; exact (Below.refl _ _).alloc (by omega) _
  rw [hw1] at HO
  have DC := Lib.hid (fun W (h : Below B w W) => And.intro (show W.cell? ⟨g, 0, none⟩ = some (.int .i64 (n : Int)) from (h.cell (p := ⟨g, 0, none⟩) lg).trans c0) (show W.cell? ⟨g, 1, none⟩ = some (.slice a m cap) from (h.cell (p := ⟨g, 1, none⟩) lg).trans c1))
  have HK : Hid (∀ W, Below B w W → ∀ j, j < m → ∃ g1 o1 u, a = some ⟨g1, o1, none⟩ ∧ W.cell? ⟨g1, o1 + j, none⟩ = some u ∧ ∀ x : Nat, Calls Tryz.prog 65 #[u, .int .i64 (x : Int)] W fun e w' => e = .returned (.bool (memP xss j x)) ∧ W = w') := fun W hW j hj => by
    obtain ⟨g1, o1, u, e1, e2, e3⟩ := K W hW j hj
    exact ⟨g1, o1, u, e1, e2, fun x => shas W u _ _ e3⟩
  obtain ⟨P, hP⟩ : ∃ P, memP xss = P := ⟨_, rfl⟩
  rw [hP] at HO HK ⊢
  have CS : Hid (∀ j x y, cnt (j + 1) (fun i => P i x && P i y) = cnt j (fun i => P i x && P i y) + if (P j x && P j y) = true then 1 else 0) := fun j x y => by rw [cnt]
  have CL : Hid (∀ j x y, cnt j (fun i => P i x && P i y) ≤ j) := fun j x y => cnt_le _ _
  have CZ : Hid (∀ x y, cnt 0 (fun i => P i x && P i y) = 0) := fun x y => rfl
  have CF : Hid (∀ x y, cnt m (fun i => P i x && P i y) = prF m P x y) := fun x y => rfl
  obtain ⟨q, hq⟩ : ∃ q : Nat → Nat → Nat → Nat, q = fun j x y => cnt j (fun i => P i x && P i y) := ⟨_, rfl⟩
  have CS2 : Hid (∀ j x y, q (j + 1) x y = q j x y + if (P j x && P j y) = true then 1 else 0) := fun j x y => by rw [hq]; exact CS.out j x y
  have CL2 : Hid (∀ j x y, q j x y ≤ j) := fun j x y => by rw [hq]; exact CL.out j x y
  have CZ2 : Hid (∀ x y, q 0 x y = 0) := fun x y => by rw [hq]; rfl
  have CF2 : Hid (∀ x y, q m x y = prF m P x y) := fun x y => by rw [hq]; rfl
  obtain ⟨f, hf⟩ : ∃ f, prF m P = f := ⟨_, rfl⟩
  rw [hf] at HO CF2 ⊢
  have SS := Lib.hid (fun a lo hi h => seg_succ f a lo hi h)
  have SN := Lib.hid (fun a lo => seg_nil f a lo)
  have PS : Hid (∀ a, prA n f (a + 1) = prA n f a ++ seg f a (a + 1) n) := fun a => rfl
  have LN : Hid (∀ a b, a < n → b ≤ n → (prA n f a ++ seg f a (a + 1) b).length < 1000000000000) := fun a b ha hb => by
    have l1 := prA_len n f a
    have l2 := seg_len f a (a + 1) b
    have l3 : a * n ≤ 32 * 32 := Nat.mul_le_mul (by omega) h32
    rw [List.length_append]; omega
  have HB := Lib.hid hB
  have BZ : Hid (∀ W, Below B w W → B ≤ W.heap.size) := fun W h => by have := h.size; omega
  clear hv K lg CS CL CZ CF hq hf hP hmm
  go_enter Tryz.func63, Tryz.ntmps63
  go_wp2
  try rw [hw1]
  try rw [hB]
  clear hw1 hB c0 c1 z1
  go_loopw [3, 4] (fun rv i wr => ∃ x : Nat, x ≤ n ∧ i = .int .i64 x ∧ Hid (Ints wr B rv (prA n f x)) ∧ Hid (Below B w wr)) (fun _ i _ => n - (intOf i).toNat)
  case atStart => exact ⟨0, by omega, rfl, HO, B1⟩
  case round =>
    obtain ⟨x, hx, rfl, hI, hBl⟩ := hrel
    obtain ⟨c0, c1⟩ := DC.out wr hBl.out
    by_cases cx : x < n
    · have k1 : decide (x < n) = true := by simpa using cx
      have k1' : decide ((x : Int) < (n : Int)) = true := decide_eq_true (by omega)
      have w3 := IntWalk.i64_in ((x : Int) + 1) (by omega)
      have I1 : Hid (Ints wr B u3 (prA n f x ++ seg f x (x + 1) (x + 1))) := by rw [SN.out, List.append_nil]; exact hI
      obtain ⟨wq, rfl⟩ : ∃ wq : World, wq = wr := ⟨_, rfl⟩
      go_wp2
      clear c0 c1
      go_loopw [3, 5] (fun rv i wr => ∃ y : Nat, x + 1 ≤ y ∧ y ≤ n ∧ i = .int .i64 y ∧ Hid (Ints wr B rv (prA n f x ++ seg f x (x + 1) y)) ∧ Hid (Below B w wr)) (fun _ i _ => n - (intOf i).toNat)
      case atStart => exact ⟨x + 1, by omega, by omega, by go_num, I1, hBl⟩
      case round =>
        obtain ⟨y, hy1, hy, rfl, hI2, hB2⟩ := hrel
        obtain ⟨c0, c1⟩ := DC.out wr hB2.out
        by_cases cy : y < n
        · have k2 : decide (y < n) = true := by simpa using cy
          have k2' : decide ((y : Int) < (n : Int)) = true := decide_eq_true (by omega)
          have w4 := IntWalk.i64_in ((y : Int) + 1) (by omega)
          have SY := Lib.hid (SS.out x (x + 1) y hy1)
          have LL := LN.out x y cx (by omega)
          have QZ := Lib.hid (CZ2.out x y)
          have QF := Lib.hid (CF2.out x y)
          obtain ⟨wq2, rfl⟩ : ∃ wq : World, wq = wr := ⟨_, rfl⟩
          go_wp2
          clear c0 c1
          go_loopw [6, 7] (fun c i wr => ∃ j : Nat, j ≤ m ∧ i = .int .i64 j ∧ c = .int .i64 (q j x y : Nat) ∧ Hid (Ints wr B u3 (prA n f x ++ seg f x (x + 1) y)) ∧ Hid (Below B w wr)) (fun _ i _ => m - (intOf i).toNat)
          case atStart => exact ⟨0, by omega, rfl, by rw [QZ.out]; rfl, hI2, hB2⟩
          case round =>
            obtain ⟨j, hj, rfl, rfl, hI3, hB3⟩ := hrel
            obtain ⟨c0, c1⟩ := DC.out wr hB3.out
            by_cases cj : j < m
            · have k3 : decide (j < m) = true := by simpa using cj
              have k3' : decide ((j : Int) < (m : Int)) = true := decide_eq_true (by omega)
              have w5 := IntWalk.i64_in ((j : Int) + 1) (by omega)
              have j0 : (0 : Int) ≤ (j : Int) := by omega
              have j1 : (j : Int) < (m : Int) := by omega
              obtain ⟨g1, o1, ur, rfl, e2, hc⟩ := HK.out wr hB3.out j cj
              have h1 := Lib.hid (hc x)
              have h2 := Lib.hid (hc y)
              have QS := CS2.out j x y
              have QL := CL2.out j x y
              obtain ⟨t, ht⟩ : ∃ t, q j x y = t := ⟨_, rfl⟩
              rw [ht] at QS QL ⊢
              have w6 := IntWalk.i64_in ((t : Int) + 1) (by omega)
              obtain ⟨b1, hb1⟩ : ∃ b, P j x = b := ⟨_, rfl⟩
              obtain ⟨b2, hb2⟩ : ∃ b, P j y = b := ⟨_, rfl⟩
              rw [hb1] at h1 QS
              rw [hb2] at h2 QS
              have HT := Lib.hid ht
              clear hc hb1 hb2 ht
              cases b1 with
              | false =>
                have QS2 : Hid (q (j + 1) x y = t) := by unfold Hid; simpa using QS
                clear QS QL h2
                go_wp2_with fail
                refine h1.out.mono ?_
                rintro e w9 ⟨rfl, rfl⟩
                go_wp2
                go_roundw
                case rel => exact ⟨j + 1, by omega, by go_num, by rw [QS2.out], hI3, hB3⟩
                case measure => simp [intOf]; omega
              | true =>
                cases b2 with
                | false =>
                  have QS2 : Hid (q (j + 1) x y = t) := by unfold Hid; simpa using QS
                  clear QS QL
                  go_wp2_with fail
                  refine h1.out.mono ?_
                  rintro e w9 ⟨rfl, rfl⟩
                  go_wp2_with fail
                  refine h2.out.mono ?_
                  rintro e w9 ⟨rfl, rfl⟩
                  go_wp2
                  go_roundw
                  case rel => exact ⟨j + 1, by omega, by go_num, by rw [QS2.out], hI3, hB3⟩
                  case measure => simp [intOf]; omega
                | true =>
                  have QS2 : Hid (q (j + 1) x y = t + 1) := by unfold Hid; simpa using QS
                  clear QS QL
                  go_wp2_with fail
                  refine h1.out.mono ?_
                  rintro e w9 ⟨rfl, rfl⟩
                  go_wp2_with fail
                  refine h2.out.mono ?_
                  rintro e w9 ⟨rfl, rfl⟩
                  go_wp2
                  go_roundw
                  case rel => exact ⟨j + 1, by omega, by go_num, by rw [QS2.out]; go_num, hI3, hB3⟩
                  case measure => simp [intOf]; omega
            · have k3 : decide (j < m) = false := by simpa using cj
              have k3' : decide ((j : Int) < (m : Int)) = false := decide_eq_false (by omega)
              obtain rfl : j = m := by omega
              obtain ⟨t, ht⟩ : ∃ t, q j x y = t := ⟨_, rfl⟩
              have zr := BZ.out wr hB3.out
              have QF2 : Hid (f x y = t) := by unfold Hid; rw [← QF.out, ht]
              rw [ht]
              clear ht
              go_wp2_with (at_builtin; refine wpList_push wr (by rfl) _ _ (by rfl) B _ _ (by rfl) hI3.out (t : Int) _ (by rfl) LL zr ?_; intro v' w8 hn hb; have HN := Lib.hid hn; have HB8 := Lib.hid hb; clear hn hb)
              go_roundw
              case rel => exact ⟨y + 1, by omega, by omega, by go_num, by unfold Hid; rw [SY.out, QF2.out, ← List.append_assoc]; exact HN.out, by exact hB3.out.trans (HB8.out)⟩
              case measure => simp [intOf]; omega
        · have k2 : decide (y < n) = false := by simpa using cy
          have k2' : decide ((y : Int) < (n : Int)) = false := decide_eq_false (by omega)
          obtain rfl : y = n := by omega
          rw [← PS.out] at hI2
          go_wp2
          go_roundw
          case rel => exact ⟨x + 1, by omega, by go_num, hI2, hB2⟩
          case measure => simp [intOf]; omega
    · have k1 : decide (x < n) = false := by simpa using cx
      have k1' : decide ((x : Int) < (n : Int)) = false := decide_eq_false (by omega)
      obtain rfl : x = n := by omega
      go_wp2
      go_ret
      exact ⟨_, rfl, by rw [HB.out]; exact hI.out, by rw [HB.out]; exact hBl.out⟩
end
end Go.Proofs.YtdhlnagkhkcoiaaGreatDoor
