/- The sets of the blocks at each point (blocksAtPoints). -/
import Derived.Test.YtdhlnagkhkcoiaaGreatDoorWb
import Derived.Test.YtdhlnagkhkcoiaaGreatDoorDm
namespace Go.Proofs.YtdhlnagkhkcoiaaGreatDoor
open Go.RowKit Go.Shelf
set_option linter.unusedVariables false

def atP (S : Nat → Nat) (j : Nat) (i x : Nat) : Bool := decide (i < j) && (S i).testBit x
def atQ (S : Nat → Nat) (j : Nat) (xs : List Int) (i x : Nat) : Bool := atP S j i x || (decide (i = j) && decide ((x : Int) ∈ xs))
theorem atQ_nil (S : Nat → Nat) (j i x : Nat) : atP S j i x = atQ S j [] i x := by unfold atQ; simp
theorem atQ_all {S : Nat → Nat} {j n : Nat} (hn : n ≤ 32) (i x : Nat) (hx : x < n) : atQ S j (fls 32 (fun k => (S j).testBit k)) i x = atP S (j + 1) i x := by
  unfold atQ atP
  have e : decide ((x : Int) ∈ fls 32 (fun k => (S j).testBit k)) = (S j).testBit x := by
    cases h : (S j).testBit x with
    | true => exact decide_eq_true ((fls_mem _ _ _).2 ⟨x, by omega, h, rfl⟩)
    | false =>
        refine decide_eq_false fun k => ?_
        obtain ⟨y, h1, h2, h3⟩ := (fls_mem _ _ _).1 k
        have : y = x := by omega
        rw [this, h] at h2; cases h2
  rw [e]
  by_cases a : i = j
  · subst a; simp
  · by_cases b : i < j
    · have : i < j + 1 := by omega
      simp [a, b, this]
    · have : ¬ i < j + 1 := by omega
      simp [a, b, this]
theorem atQ_snoc (S : Nat → Nat) (j : Nat) (xs : List Int) (t i x : Nat) : (atQ S j xs i x || (decide (i = j) && decide (x = t))) = atQ S j (xs ++ [(t : Int)]) i x := by
  unfold atQ
  have e : decide ((x : Int) ∈ xs ++ [(t : Int)]) = (decide ((x : Int) ∈ xs) || decide (x = t)) := by
    have : ((x : Int) = (t : Int)) ↔ x = t := by omega
    simp [List.mem_append, this]
  rw [e, Bool.or_assoc, Bool.and_or_distrib_left]

set_option maxRecDepth 100000 in
set_option maxHeartbeats 2000000 in
theorem iAt (n m : Nat) (h1 : 1 ≤ n) (h32 : n ≤ 32) (hm : m ≤ 128) (S : Nat → Nat) (g : Nat) (w : World) (hU : Ub w g m S) (hS : ∀ i, i < m → S i < 4294967296) (hP : ∀ i, i < m → ∀ k, (S i).testBit k = true → k < n) (ht : Tab w) :
    Calls Tryz.prog 112 #[.agg #[.int .i64 (n : Int), .slice (some ⟨g, 0, none⟩) m m]] w fun e w' => ∃ g2 c, e = .returned (.slice (some ⟨g2, 0, none⟩) n n) ∧ w.heap.size ≤ g2 ∧ Wb w' g2 (n * 2) c ∧ Rep n (atP S m) c ∧ Below w.heap.size w w' := by
  obtain ⟨B, hB⟩ : ∃ B, w.heap.size = B := ⟨_, rfl⟩
  have hpos : 0 < B := by rw [← hB]; exact ht.pos
  have lg : g < B := by rw [← hB]; exact hU.lt
  obtain ⟨w1, hw1⟩ : ∃ w1, w.alloc (.cells #[.int .i64 (n : Int), .slice (some ⟨g, 0, none⟩) m m] 45) = w1 := ⟨_, rfl⟩
  have z1 : w1.heap.size = B + 1 := by rw [← hw1, World.size_alloc, hB]
  have b1 : Below B w w1 := by rw [← hw1]; exact (Below.refl _ _).alloc (by omega) _
  have A1 : w1.heap[B]? = some (.cells #[.int .i64 (n : Int), .slice (some ⟨g, 0, none⟩) m m] 45 (0, 0)) := by rw [← hw1, ← hB]; exact heap_alloc_new _ _
  have c0 : w1.cell? ⟨B, 0, none⟩ = some (.int .i64 (n : Int)) := by rw [cell_of_row w1 B 0 _ _ _ A1]; rfl
  have hmk := make_idx n (by omega)
  obtain ⟨w2, hw2⟩ : ∃ w2, w1.alloc (.cells (war (n * 2) (fun _ => 0)) 140) = w2 := ⟨_, rfl⟩
  have z2 : w2.heap.size = B + 2 := by rw [← hw2, World.size_alloc, z1]
  have b2 : Below B w w2 := by rw [← hw2]; exact b1.alloc (by omega) _
  have A2 : w2.heap[B]? = some (.cells #[.int .i64 (n : Int), .slice (some ⟨g, 0, none⟩) m m] 45 (0, 0)) := by rw [← hw2]; exact (heap_alloc_old _ _ (by omega)).trans A1
  have c1 : w2.cell? ⟨B, 1, none⟩ = some (.slice (some ⟨g, 0, none⟩) m m) := by rw [cell_of_row w2 B 1 _ _ _ A2]; rfl
  have W2 : Hid (Wb w2 (B + 1) (n * 2) (fun _ => 0)) := by unfold Hid Wb; rw [← hw2, ← z1]; exact heap_alloc_new _ _
  have B2 := Lib.hid b2
  have R2 : Hid (Rep n (atP S 0) (fun _ => 0)) := rep_congr (rep_zero n) (fun i x _ _ => by unfold atP; simp)
  have UU := Lib.hid (fun W (h : Below B w W) => hU.below h lg)
  have TT := Lib.hid (fun W (h : Below B w W) => ht.below h hpos)
  have HP := Lib.hid (fun W j (hj : j < m) (h : Below B w W) => ipoints (S j) W (hS j hj) (ht.below h hpos))
  have PP := Lib.hid hP
  have HB := Lib.hid hB
  clear hU hS hP ht b1 A1 b2 A2 lg hpos
  go_enter Tryz.func112, Tryz.ntmps112
  go_wp2
  try rw [hw2]
  clear hw1 hw2 hmk c0 hB z1
  go_loopw [14] (fun i wr => ∃ j : Nat, j ≤ m ∧ i = .int .i64 j ∧ (∃ c, Hid (Wb wr (B + 1) (n * 2) c) ∧ Hid (Rep n (atP S j) c)) ∧ Hid (Below B w wr) ∧ B + 2 ≤ wr.heap.size) (fun i _ => m - (intOf i).toNat)
  case atStart => exact ⟨0, by omega, rfl, ⟨_, W2, R2⟩, B2, by omega⟩
  case round =>
    obtain ⟨j, hj, rfl, ⟨c, hW, hR⟩, hBl, hz⟩ := hrel
    by_cases cj : j < m
    · have k1 : decide (j < m) = true := by simpa using cj
      have k1' : decide ((j : Int) < (m : Int)) = true := decide_eq_true (by omega)
      have w3 := IntWalk.i64_in ((j : Int) + 1) (by omega)
      have j0 : (0 : Int) ≤ (j : Int) := by omega
      have j1 : (j : Int) < (m : Int) := by omega
      have uj := (UU.out wr hBl.out).cell j cj
      have HPj := Lib.hid (HP.out wr j cj hBl.out)
      have QE := Lib.hid (fun i x (hx : x < n) => atQ_all (S := S) (j := j) h32 i x hx)
      have XR : Hid (∀ y ∈ fls 32 (fun k => (S j).testBit k), ∃ t : Nat, t < n ∧ y = t) := fun y hy => by
        obtain ⟨t, h1, h2, rfl⟩ := (fls_mem _ _ _).1 hy
        exact ⟨t, PP.out j cj t h2, rfl⟩
      have FL := fls_len 32 (fun k => (S j).testBit k)
      obtain ⟨xs, hxs⟩ : ∃ xs, fls 32 (fun k => (S j).testBit k) = xs := ⟨_, rfl⟩
      rw [hxs] at HPj QE XR FL
      obtain ⟨s, hs⟩ : ∃ s, S j = s := ⟨_, rfl⟩
      rw [hs] at uj HPj
      clear hxs hs
      go_wp2_with fail
      refine HPj.out.mono ?_
      rintro e w5 ⟨v, rfl, i5, b5⟩
      have W5 := Lib.hid (hW.out.below b5 (by omega))
      have B5 : Hid (Below B w w5) := hBl.out.trans (b5.mono (by omega))
      have z5 : B + 2 ≤ w5.heap.size := by have := b5.size; omega
      obtain ⟨l, hl⟩ : ∃ l, xs.length = l := ⟨_, rfl⟩
      have HC : Hid (∀ W : World, (∀ b, b ≠ B + 1 → W.heap[b]? = w5.heap[b]?) → ∀ a cap, v = .slice a l cap → ∀ k, k < l → ∃ g off, a = some ⟨g, off, none⟩ ∧ W.cell? ⟨g, off + k, none⟩ = some (.int .i64 (xs.getD k 0))) := fun W hW a cap e k hk => by
        subst e
        have lt := World.ownsRow.lt i5
        obtain ⟨a', cap', e, -, hc⟩ := i5.at.shape
        simp only [Value.slice.injEq] at e
        obtain ⟨rfl, -, -⟩ := e
        obtain ⟨g', off, rfl, q⟩ := hc k (by omega)
        have l' := lt g' rfl
        refine ⟨g', off, rfl, ?_⟩
        rw [← q]
        unfold World.cell?
        rw [hW g' (by omega)]
      obtain ⟨a, cap, rfl, -, -⟩ := i5.at.shape
      have XJ : Hid (∀ k, k < l → (∃ t : Nat, t < n ∧ xs.getD k 0 = t) ∧ xs.take (k + 1) = xs.take k ++ [xs.getD k 0]) := fun k hk => ⟨XR.out _ (by rw [List.getD_eq_getElem?_getD, List.getElem?_eq_getElem (by omega)]; exact List.getElem_mem _), take_getD (by omega)⟩
      have EA : Hid (xs.take l = xs) := by rw [← hl, List.take_length]; rfl
      have R5 : Hid (Rep n (atQ S j (xs.take 0)) c) := rep_congr hR.out (fun i x _ _ => atQ_nil S j i x)
      rw [hl] at HC FL ⊢
      obtain ⟨wq, hwq⟩ : ∃ wq : World, wq = w5 := ⟨_, rfl⟩
      clear i5 b5 HPj hW hR hl XR hwq
      go_wp2
      go_loopw [22] (fun i wr => ∃ k : Nat, k ≤ l ∧ i = .int .i64 k ∧ (∃ c, Hid (Wb wr (B + 1) (n * 2) c) ∧ Hid (Rep n (atQ S j (xs.take k)) c)) ∧ Hid (∀ b, b ≠ B + 1 → wr.heap[b]? = w5.heap[b]?) ∧ Hid (Below B w wr) ∧ B + 2 ≤ wr.heap.size) (fun i _ => l - (intOf i).toNat)
      case atStart => exact ⟨0, by omega, rfl, ⟨_, W5, R5⟩, fun _ _ => rfl, B5, z5⟩
      case round =>
        obtain ⟨k, hk, rfl, ⟨c', hW, hR⟩, hsm, hBl2, hz2⟩ := hrel
        by_cases ck : k < l
        · have k2 : decide (k < l) = true := by simpa using ck
          have k2' : decide ((k : Int) < (l : Int)) = true := decide_eq_true (by omega)
          have w4 := IntWalk.i64_in ((k : Int) + 1) (by omega)
          have kk0 : (0 : Int) ≤ (k : Int) := by omega
          have kk1 : (k : Int) < (l : Int) := by omega
          obtain ⟨g', off, ha, ck'⟩ := HC.out wr hsm.out _ _ rfl k ck
          subst ha
          obtain ⟨⟨t, htn, hxt⟩, htk⟩ := XJ.out k ck
          rw [hxt] at ck' htk
          have t0 : (0 : Int) ≤ (t : Int) := by omega
          have t1 : (t : Int) < (n : Int) := by omega
          have cb : c' (t * 2 + j / 64) < 18446744073709551616 := by have := (hR.out t htn j (by omega)).1; rwa [Nat.mul_comm t 2]
          have HA := Lib.hid (iadd (B + 1) (n * 2) (t * 2) j c' wr hW.out (by omega) (by omega) cb)
          have W6 := Lib.hid ((show Wb wr.drew (B + 1) (n * 2) c' from hW.out).set (t * 2 + j / 64) (c' (t * 2 + j / 64) ||| 2 ^ (j % 64)))
          have R6 : Hid (Rep n (atQ S j (xs.take (k + 1))) (updN c' (t * 2 + j / 64) (c' (t * 2 + j / 64) ||| 2 ^ (j % 64)))) := by
            unfold Hid
            rw [Nat.mul_comm t 2, htk]
            exact rep_congr (rep_add hR.out t j htn (by omega)) (fun i x _ _ => atQ_snoc S j _ t i x)
          obtain ⟨nv, hnv⟩ : ∃ nv : Int, ((c' (t * 2 + j / 64) ||| 2 ^ (j % 64) : Nat) : Int) = nv := ⟨_, rfl⟩
          rw [hnv] at HA W6
          obtain ⟨w7, hw7⟩ : ∃ w7, wr.drew.setCell ⟨B + 1, t * 2 + j / 64, none⟩ (.int .u64 nv) = w7 := ⟨_, rfl⟩
          have S7 : Hid (∀ b, b ≠ B + 1 → w7.heap[b]? = w5.heap[b]?) := fun b hb => by
            rw [← hw7, Below.heap_setCell _ _ _ b (by simpa using hb)]; exact hsm.out b hb
          have B7 : Hid (Below B w w7) := by
            unfold Hid; rw [← hw7]
            exact (show Below B w wr.drew from hBl2.out.drew).setCell (p := ⟨B + 1, t * 2 + j / 64, none⟩) (by simp only; omega) _
          have z7 : B + 2 ≤ w7.heap.size := by rw [← hw7]; simpa [World.setCell] using hz2
          rw [hw7] at HA W6
          clear hnv hw7 hW hR htk cb
          go_wp2_with fail
          refine HA.out.mono ?_
          rintro e w8 ⟨rfl, rfl⟩
          go_wp2
          go_roundw
          case rel => exact ⟨k + 1, by omega, by go_num, ⟨_, W6, R6⟩, S7, B7, z7⟩
          case measure => simp [intOf]; omega
        · have k2 : decide (k < l) = false := by simpa using ck
          have k2' : decide ((k : Int) < (l : Int)) = false := decide_eq_false (by omega)
          obtain rfl : k = l := by omega
          have R6 : Hid (Rep n (atP S (j + 1)) c') := rep_congr hR.out (fun i x _ hx => by rw [EA.out]; exact QE.out i x hx)
          go_wp2
          go_roundw
          case rel => exact ⟨j + 1, by omega, by go_num, ⟨_, hW, R6⟩, hBl2, hz2⟩
          case measure => simp [intOf]; omega
    · have k1 : decide (j < m) = false := by simpa using cj
      have k1' : decide ((j : Int) < (m : Int)) = false := decide_eq_false (by omega)
      obtain rfl : j = m := by omega
      go_wp2
      go_ret
      exact ⟨B + 1, c, rfl, by rw [HB.out]; omega, hW.out, hR.out, by rw [HB.out]; exact hBl.out⟩
end Go.Proofs.YtdhlnagkhkcoiaaGreatDoor
