/- Candidates: the numbers; the model's l09Candidates, CandidatesAt, l06Own, FillCell. -/
import Derived.Test.YtigcgpgkpkoodaaDoorPts
import Derived.Test.YtigcgpgkpkoodaaDoorRmp
import Derived.Test.YtigcgpgkpkoodaaDoorHas
namespace Go.Proofs.YtigcgpgkpkoodaaDoor
open Go.RowKit Go.Shelf
set_option linter.unusedVariables false

def cb1 (f : Nat → Nat → Int) (x y v k : Nat) : Bool := !(f x k == ((v : Nat) : Int)) && !(f k y == ((v : Nat) : Int))
def cndB (n : Nat) (f : Nat → Nat → Int) (x y v : Nat) : Bool := allN n (cb1 f x y v)
def cdl (n : Nat) (f : Nat → Nat → Int) (x y : Nat) : Nat → List Int
  | 0 => []
  | v + 1 => cdl n f x y v ++ (if cndB n f x y v = true then [((v : Nat) : Int)] else [])
theorem cdl_len (n : Nat) (f : Nat → Nat → Int) (x y : Nat) : ∀ v, (cdl n f x y v).length ≤ v
  | 0 => Nat.le_refl _
  | v + 1 => by
    have := cdl_len n f x y v
    rw [cdl, List.length_append]
    split
    · simp only [List.length_singleton]; omega
    · simp only [List.length_nil]; omega
theorem cdl_mem (n : Nat) (f : Nat → Nat → Int) (x y : Nat) (s : Int) : ∀ v, s ∈ cdl n f x y v ↔ ∃ t : Nat, t < v ∧ cndB n f x y t = true ∧ s = t
  | 0 => by
    rw [cdl]
    constructor
    · intro h; cases h
    · rintro ⟨t, h, -⟩; omega
  | v + 1 => by
    rw [cdl, List.mem_append, cdl_mem n f x y s v]
    constructor
    · rintro (⟨t, h1, h2, h3⟩ | h)
      · exact ⟨t, by omega, h2, h3⟩
      · split at h
        · rename_i c
          rw [List.mem_singleton] at h
          exact ⟨v, by omega, c, h⟩
        · cases h
    · rintro ⟨t, h1, h2, h3⟩
      by_cases e : t = v
      · right
        rw [← e, if_pos h2, h3]; exact List.mem_singleton.2 rfl
      · left; exact ⟨t, by omega, h2, h3⟩
theorem cndB_iff {n : Nat} {f : Nat → Nat → Int} {x y v : Nat} : cndB n f x y v = true ↔ Cand n f x y v := by
  unfold cndB Cand
  constructor
  · intro h
    refine ⟨fun b hb e => ?_, fun a ha e => ?_⟩
    · have := allN_at h b hb
      unfold cb1 at this
      rw [e] at this; simp at this
    · have := allN_at h a ha
      unfold cb1 at this
      rw [e] at this; simp at this
  · rintro ⟨h1, h2⟩
    refine allN_true fun k hk => ?_
    unfold cb1
    have a := h1 k hk
    have b := h2 k hk
    simp [a, b]
def canB (n : Nat) (f : Nat → Nat → Int) (x y : Nat) (s : Int) : Bool := decide (0 ≤ s ∧ s < n) && cndB n f x y s.toNat
theorem has_cdl (n : Nat) (f : Nat → Nat → Int) (x y : Nat) (s : Int) : decide (s ∈ cdl n f x y n) = canB n f x y s := by
  unfold canB
  by_cases c : 0 ≤ s ∧ s < n
  · rw [decide_eq_true c, Bool.true_and]
    cases e : cndB n f x y s.toNat with
    | true => exact decide_eq_true ((cdl_mem n f x y s n).2 ⟨s.toNat, by omega, e, by omega⟩)
    | false =>
      refine decide_eq_false fun h => ?_
      obtain ⟨t, h1, h2, h3⟩ := (cdl_mem n f x y s n).1 h
      rw [show s.toNat = t by omega, h2] at e; cases e
  · rw [decide_eq_false c, Bool.false_and]
    refine decide_eq_false fun h => ?_
    obtain ⟨t, h1, h2, h3⟩ := (cdl_mem n f x y s n).1 h
    omega
theorem canI_canB {n x y : Nat} {f : Nat → Nat → Int} {r c : Nat → Nat} (h : n ≤ 10) (hr : RowB n (sqF n f) r) (hc : ColB n (sqF n f) c) (hx : x < n) (hy : y < n) (z : Int) : canI n (r x) (c y) z = canB n f x y z := by
  have e : Cand n (sqF n f) x y z ↔ Cand n f x y z := by
    unfold Cand
    constructor
    · rintro ⟨a, b⟩
      exact ⟨fun k hk => by have := a k hk; rwa [sqF_in _ hx hk] at this, fun k hk => by have := b k hk; rwa [sqF_in _ hk hy] at this⟩
    · rintro ⟨a, b⟩
      exact ⟨fun k hk => by rw [sqF_in _ hx hk]; exact a k hk, fun k hk => by rw [sqF_in _ hk hy]; exact b k hk⟩
  have k := canI_iff h hr hc hx hy z
  rw [e] at k
  have k2 : canB n f x y z = true ↔ (0 ≤ z ∧ z < n) ∧ Cand n f x y z := by
    unfold canB
    rw [Bool.and_eq_true, decide_eq_true_iff, cndB_iff]
    constructor
    · rintro ⟨h1, h2⟩
      refine ⟨h1, ?_⟩
      rwa [show ((z.toNat : Nat) : Int) = z by omega] at h2
    · rintro ⟨h1, h2⟩
      refine ⟨h1, ?_⟩
      rwa [show ((z.toNat : Nat) : Int) = z by omega]
  cases a : canI n (r x) (c y) z with
  | true => rw [k2.2 (k.1 a)]
  | false =>
    cases b : canB n f x y z with
    | false => rfl
    | true => rw [k.2 (k2.1 b)] at a; cases a

noncomputable def cdC (xss : List (List Int)) (a b : Int) : Int := if ptB xss = true then if In2 xss.length a b then if 0 ≤ cellF xss a.toNat b.toNat then 6 else 0 else 2 else 1
noncomputable def CandidatesAt_0 (xss : List (List Int)) (a b : Int) : List Int := if cdC xss a b = 0 then cdl xss.length (cellF xss) a.toNat b.toNat xss.length else []
noncomputable def CandidatesAt_1 (xss : List (List Int)) (a b : Int) : Int := cdC xss a b
theorem cdC_bad {xss : List (List Int)} {a b : Int} (h : ptB xss = false) : cdC xss a b = 1 := by unfold cdC; rw [h]; rfl
theorem cdC_out {xss : List (List Int)} {a b : Int} (h : ptB xss = true) (k : ¬ In2 xss.length a b) : cdC xss a b = 2 := by unfold cdC; rw [if_pos h, if_neg k]
theorem cdC_full {xss : List (List Int)} {a b : Int} (h : ptB xss = true) (k : In2 xss.length a b) (q : 0 ≤ cellF xss a.toNat b.toNat) : cdC xss a b = 6 := by unfold cdC; rw [if_pos h, if_pos k, if_pos q]
theorem cdC_ok {xss : List (List Int)} {a b : Int} (h : ptB xss = true) (k : In2 xss.length a b) (q : ¬ 0 ≤ cellF xss a.toNat b.toNat) : cdC xss a b = 0 := by unfold cdC; rw [if_pos h, if_pos k, if_neg q]
theorem cdC_zero {xss : List (List Int)} {a b : Int} (h : cdC xss a b = 0) : ptB xss = true ∧ In2 xss.length a b ∧ ¬ 0 ≤ cellF xss a.toNat b.toNat := by
  unfold cdC at h
  split at h
  · rename_i h1
    split at h
    · rename_i h2
      split at h
      · cases h
      · rename_i h3; exact ⟨h1, h2, h3⟩
    · cases h
  · cases h
theorem CandidatesAt_no {xss : List (List Int)} {a b : Int} (h : cdC xss a b ≠ 0) : CandidatesAt_0 xss a b = [] := by unfold CandidatesAt_0; rw [if_neg h]
theorem CandidatesAt_ok {xss : List (List Int)} {a b : Int} (h : cdC xss a b = 0) : CandidatesAt_0 xss a b = cdl xss.length (cellF xss) a.toNat b.toNat xss.length := by unfold CandidatesAt_0; rw [if_pos h]
theorem lenCandidatesAt_0 (xss : List (List Int)) (a b : Int) (hx : SmallLL xss) (ha : I64 a) (hb : I64 b) : (CandidatesAt_0 xss a b).length ≤ 2000000 := by
  by_cases h : cdC xss a b = 0
  · have k := (of_ptB (cdC_zero h).1).hi
    have := cdl_len xss.length (cellF xss) a.toNat b.toNat xss.length
    rw [CandidatesAt_ok h]; omega
  · rw [CandidatesAt_no h]; decide

set_option maxRecDepth 100000 in
set_option maxHeartbeats 8000000 in
theorem sCands (w : World) (v : Value) (xss : List (List Int)) (n : Nat) (hn : xss.length = n) (h1 : 1 ≤ n) (h10 : n ≤ 10) (hr : ∀ x, x < n → (xss.getD x []).length = n) (hv : RowsAt w v xss) (x y : Nat) (hx : x < n) (hy : y < n) :
    Calls Tryd.prog 60 #[v, .int .i64 x, .int .i64 y] w fun e w' => ∃ r, e = .returned r ∧ Ints w' w.heap.size r (cdl n (cellF xss) x y n) ∧ Below w.heap.size w w' := by
  obtain ⟨g, off, c, rfl, K⟩ := hv.look2 hn hr h1
  have HK := Lib.hid K
  obtain ⟨F, hF⟩ : ∃ F, cellF xss = F := ⟨_, rfl⟩
  rw [hF] at HK ⊢
  have AS : Hid (∀ v k, allN (k + 1) (cb1 F x y v) = (allN k (cb1 F x y v) && (!(F x k == ((v : Nat) : Int)) && !(F k y == ((v : Nat) : Int))))) := fun v k => rfl
  have A0 : Hid (∀ v, allN 0 (cb1 F x y v) = true) := fun v => rfl
  have CS : Hid (∀ v, cdl n F x y (v + 1) = cdl n F x y v ++ (if allN n (cb1 F x y v) = true then [((v : Nat) : Int)] else [])) := fun v => rfl
  have CL : Hid (∀ v, (cdl n F x y v).length ≤ v) := cdl_len n F x y
  have hml := hv.1
  rw [hn] at hml
  have x0 : (0 : Int) ≤ (x : Int) := by omega
  have x1 : (x : Int) < (n : Int) := by omega
  have y0 : (0 : Int) ≤ (y : Int) := by omega
  have y1 : (y : Int) < (n : Int) := by omega
  have L0 : Hid (Ints (w.alloc (.cells #[] 2)) w.heap.size (.slice (some ⟨w.heap.size, 0, none⟩) 0 0) (cdl n F x y 0)) := World.ownsRow_made w #[] 0 (Nat.le_refl _) (by decide) rfl
  have M0 : Hid (Below w.heap.size w (w.alloc (.cells #[] 2))) := (Below.refl _ _).alloc (Nat.le_refl _) _
  have z0 : w.heap.size ≤ (w.alloc (.cells #[] 2)).heap.size := by rw [World.size_alloc]; omega
  clear hv K hr hn hF
  go_enter Tryd.func60, Tryd.ntmps60
  go_wp2
  obtain ⟨wo, hwo⟩ : ∃ wo, w.alloc (.cells #[] 2) = wo := ⟨_, rfl⟩
  rw [hwo] at L0 M0 z0 ⊢
  obtain ⟨B, hB⟩ : ∃ B, w.heap.size = B := ⟨_, rfl⟩
  rw [hB] at L0 M0 z0 HK ⊢
  clear hwo
  have HBB := Lib.hid hB
  clear hB
  go_loopw [8, 9] (fun rv i wr => ∃ v : Nat, v ≤ n ∧ i = .int .i64 v ∧ Hid (Ints wr B rv (cdl n F x y v)) ∧ Hid (Below B w wr) ∧ B ≤ wr.heap.size) (fun _ i _ => n - (intOf i).toNat)
  case atStart => exact ⟨0, by omega, rfl, L0, M0, z0⟩
  case round =>
    obtain ⟨v, hv, rfl, hI, hBl, hz⟩ := hrel
    by_cases cv : v < n
    · have k1 : decide (v < n) = true := by simpa using cv
      have k1' : decide ((v : Int) < (n : Int)) = true := decide_eq_true (by omega)
      have wv := IntWalk.i64_in ((v : Int) + 1) (by omega)
      go_wp2
      go_loop [10, 11] (fun fr i => ∃ k : Nat, k ≤ n ∧ i = .int .i64 k ∧ fr = .bool (allN k (cb1 F x y v))) (fun _ i => n - (intOf i).toNat)
      case atStart => exact ⟨0, by omega, rfl, by rw [A0.out]⟩
      case round =>
        obtain ⟨k, hk, rfl, rfl⟩ := hrel
        by_cases ck : k < n
        · have k2 : decide (k < n) = true := by simpa using ck
          have k2' : decide ((k : Int) < (n : Int)) = true := decide_eq_true (by omega)
          have wk := IntWalk.i64_in ((k : Int) + 1) (by omega)
          have kk0 : (0 : Int) ≤ (k : Int) := by omega
          have kk1 : (k : Int) < (n : Int) := by omega
          obtain ⟨gx, ox, kx, hx1, hx2⟩ := HK.out wr hBl.out x hx
          obtain ⟨gk, ok, kk, hk1, hk2⟩ := HK.out wr hBl.out k ck
          have m1 := hx2 k ck
          have m2 := hk2 y hy
          have ay := AS.out v k
          obtain ⟨s, hs⟩ : ∃ s, F x k = s := ⟨_, rfl⟩
          obtain ⟨t, ht⟩ : ∃ t, F k y = t := ⟨_, rfl⟩
          rw [hs] at m1 ay
          rw [ht] at m2 ay
          clear hx2 hk2 hs ht
          by_cases e1 : s = (v : Int)
          · have t1 : (s == (v : Int)) = true := by simp [e1]
            have A2 : Hid (allN (k + 1) (cb1 F x y v) = false) := by unfold Hid; rw [ay, t1]; simp
            clear ay e1
            go_wp2
            go_round
            case rel => exact ⟨k + 1, by omega, by go_num, by rw [A2.out]⟩
            case measure => simp [intOf]; omega
          · have t1 : (s == (v : Int)) = false := by simpa using e1
            by_cases e2 : t = (v : Int)
            · have t2 : (t == (v : Int)) = true := by simp [e2]
              have A2 : Hid (allN (k + 1) (cb1 F x y v) = false) := by unfold Hid; rw [ay, t2]; simp
              clear ay e1 e2
              go_wp2
              go_round
              case rel => exact ⟨k + 1, by omega, by go_num, by rw [A2.out]⟩
              case measure => simp [intOf]; omega
            · have t2 : (t == (v : Int)) = false := by simpa using e2
              have A2 : Hid (allN (k + 1) (cb1 F x y v) = allN k (cb1 F x y v)) := by unfold Hid; rw [ay, t1, t2]; simp
              clear ay e1 e2
              go_wp2
              go_round
              case rel => exact ⟨k + 1, by omega, by go_num, by rw [A2.out]⟩
              case measure => simp [intOf]; omega
        · have k2 : decide (k < n) = false := by simpa using ck
          have k2' : decide ((k : Int) < (n : Int)) = false := decide_eq_false (by omega)
          obtain rfl : k = n := by omega
          have cs := CS.out v
          have cl := CL.out v
          obtain ⟨fr, hfr⟩ : ∃ fr, allN k (cb1 F x y v) = fr := ⟨_, rfl⟩
          rw [hfr] at cs ⊢
          clear hfr
          cases fr with
          | true =>
            rw [if_pos rfl] at cs
            have HCS := Lib.hid cs
            clear cs
            go_wp2_with (at_builtin; refine wpList_push wr (by rfl) _ _ (by rfl) B _ _ (by rfl) hI.out v _ (by rfl) (by omega) hz ?_; intro v' w6 hn hb; have HN6 := Lib.hid hn; have HB6 := Lib.hid hb; clear hn hb)
            go_roundw
            case rel => exact ⟨v + 1, by omega, by go_num, by unfold Hid; rw [HCS.out]; exact HN6.out, hBl.out.trans HB6.out, Nat.le_trans hz HB6.out.size⟩
            case measure => simp [intOf]; omega
          | false =>
            rw [if_neg Bool.noConfusion, List.append_nil] at cs
            have HCS := Lib.hid cs
            clear cs
            go_wp2
            go_roundw
            case rel => exact ⟨v + 1, by omega, by go_num, by unfold Hid; rw [HCS.out]; exact hI.out, hBl, hz⟩
            case measure => simp [intOf]; omega
    · have k1 : decide (v < n) = false := by simpa using cv
      have k1' : decide ((v : Int) < (n : Int)) = false := decide_eq_false (by omega)
      obtain rfl : v = n := by omega
      go_wp2
      go_ret
      exact ⟨_, rfl, by rw [HBB.out]; exact hI.out, by rw [HBB.out]; exact hBl.out⟩
end Go.Proofs.YtigcgpgkpkoodaaDoor
