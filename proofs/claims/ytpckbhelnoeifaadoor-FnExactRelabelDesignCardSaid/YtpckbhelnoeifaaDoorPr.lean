/- Permutations: images of sets, factorials, ranks, by the model. -/
import Derived.Test.YtpckbhelnoeifaaDoorPv
import Derived.Test.YtpckbhelnoeifaaDoorPut
import Derived.Test.YtpckbhelnoeifaaDoorSet2
import Derived.Test.YtpckbhelnoeifaaDoorBit
import Derived.Test.YtpckbhelnoeifaaDoorIo
import Derived.Test.YtpckbhelnoeifaaDoorPs
namespace Go.Proofs.YtpckbhelnoeifaaDoor
open Go.RowKit
set_option linter.unusedVariables false

/-- The image of a list of places, put together. -/
def img (ps set : List Int) : List Int := set.foldl (fun acc s => put acc (ps.getD s.toNat 0)) []
theorem img_take {ps set : List Int} {j : Nat} (h : j < set.length) : img ps (set.take (j + 1)) = put (img ps (set.take j)) (ps.getD (set.getD j 0).toNat 0) := by
  unfold img; rw [takeI_getD h, List.foldl_append]; rfl
theorem img_len (ps : List Int) (set : List Int) : ∀ j, j ≤ set.length → (img ps (set.take j)).length ≤ j
  | 0, _ => by simp [img]
  | j + 1, h => by
    rw [img_take (by omega)]
    have := img_len ps set j (by omega)
    have := put_len (img ps (set.take j)) (ps.getD (set.getD j 0).toNat 0)
    omega
theorem validSet_bd {xs : List Int} {n : Int} (h : validSet xs n = true) : n ≤ 32 ∧ ∀ i, i < xs.length → 0 ≤ xs.getD i 0 ∧ xs.getD i 0 < n := by
  unfold validSet at h
  simp only [Bool.and_eq_true, decide_eq_true_eq] at h
  obtain ⟨⟨h1, h2⟩, h3⟩ := h
  have hr := of_risesB h3
  exact ⟨h2, fun i hi => by have := hr i hi; unfold okAt at this; omega⟩
theorem validSet_rises {xs : List Int} {n : Int} (h : validSet xs n = true) : Rises 0 31 xs := fun i hi => by
  unfold validSet at h
  simp only [Bool.and_eq_true, decide_eq_true_eq] at h
  have := of_risesB h.2 i hi
  unfold okAt at this ⊢
  omega
theorem validSet_len {xs : List Int} {n : Int} (h : validSet xs n = true) : xs.length ≤ 32 := by
  rw [set_fls (validSet_rises h)]
  exact fls_len _ _

set_option maxHeartbeats 1000000 in
theorem sImage (w : World) (u v : Value) (ps set : List Int) (hu : IntsAt w u ps) (hv : IntsAt w v set) (hp : ∀ i, i < set.length → 0 ≤ set.getD i 0 ∧ set.getD i 0 < ps.length) (hl : set.length ≤ 1000000) :
    Calls Tryd.prog 91 #[u, v] w fun e w' => ∃ r, e = .returned r ∧ Ints w' w.heap.size r (img ps set) ∧ Below w.heap.size w w' := by
  have hq63 := hu.1
  obtain ⟨a, cap, rfl, hc⟩ := part2 hv
  obtain ⟨b, cap', rfl, hd⟩ := part2 hu
  have TK : Hid (∀ j, j < set.length → img ps (set.take (j + 1)) = put (img ps (set.take j)) (ps.getD (set.getD j 0).toNat 0)) := fun j hj => img_take hj
  have TL : Hid (∀ j, j ≤ set.length → (img ps (set.take j)).length ≤ j) := img_len ps set
  have TE : Hid (set.take set.length = set) := List.take_length
  have HC := Lib.hid hc
  have HD := Lib.hid hd
  have HP := Lib.hid hp
  obtain ⟨m, hm⟩ : ∃ m, set.length = m := ⟨_, rfl⟩
  obtain ⟨k, hk⟩ : ∃ k, ps.length = k := ⟨_, rfl⟩
  rw [hm] at HC TK TE TL HP hl ⊢
  rw [hk] at HD HP hq63 ⊢
  clear hc hd hu hv hp hm hk
  go_enter Tryd.func91, Tryd.ntmps91
  go_wp2
  obtain ⟨wo, hwo⟩ : ∃ wo, w.alloc (.cells #[] 2) = wo := ⟨_, rfl⟩
  have HI : Hid (Ints wo w.heap.size (.slice (some ⟨w.heap.size, 0, none⟩) 0 0) []) := by rw [← hwo]; exact World.ownsRow_made w #[] 0 (Nat.le_refl _) (by decide) rfl
  have HB : Hid (Below w.heap.size w wo) := by rw [← hwo]; exact (Below.refl _ _).alloc (Nat.le_refl _) _
  rw [hwo]
  clear hwo
  obtain ⟨B, hB⟩ : ∃ B, w.heap.size = B := ⟨_, rfl⟩
  rw [hB] at HI HB HC HD ⊢
  have HE := Lib.hid hB
  clear hB
  go_loopw [5, 6] (fun v i wr => ∃ (j : Nat), j ≤ m ∧ i = .int .i64 j ∧ Hid (Ints wr B v (img ps (set.take j))) ∧ Hid (Below B w wr)) (fun _ i _ => m - (intOf i).toNat)
  case atStart => exact ⟨0, by omega, rfl, HI, HB⟩
  case round =>
    obtain ⟨j, hj, rfl, hI, hBl⟩ := hrel
    have s2 : B ≤ wr.heap.size := by have := hBl.out.size; have := HE.out; omega
    by_cases c : j < m
    · have k1 : decide (j < m) = true := by simpa using c
      obtain ⟨g, off, rfl, hg, cj⟩ := HC.out j c
      obtain ⟨p0, p1⟩ := HP.out j c
      have TJ := Lib.hid (TK.out j c)
      obtain ⟨x, hx⟩ : ∃ x, set.getD j 0 = x := ⟨_, rfl⟩
      rw [hx] at cj p0 p1 TJ
      obtain ⟨t, rfl⟩ : ∃ t : Nat, x = t := ⟨x.toNat, by omega⟩
      rw [Int.toNat_natCast] at TJ
      obtain ⟨g', off', rfl, hg', cj'⟩ := HD.out t (by omega)
      obtain ⟨y, hy⟩ : ∃ y, ps.getD t 0 = y := ⟨_, rfl⟩
      rw [hy] at cj' TJ
      have cx : wr.cell? ⟨g, off + j, none⟩ = some (.int .i64 t) := by rw [hBl.out.cell (p := ⟨g, off + j, none⟩) hg, cj]
      have cy : wr.cell? ⟨g', off' + t, none⟩ = some (.int .i64 y) := by rw [hBl.out.cell (p := ⟨g', off' + t, none⟩) hg', cj']
      have j0 : (0 : Int) ≤ (j : Int) := by omega
      have j1 : (j : Int) < (m : Int) := by omega
      have w3 := IntWalk.i64_in ((j : Int) + 1) (by omega)
      have hlen := TL.out j (by omega)
      have HPT := Lib.hid (sput wr _ (img ps (set.take j)) y hI.out.at (by omega))
      clear hx hy cj cj' hg hg' hlen
      go_wp2_with fail
      refine HPT.out.mono ?_
      rintro e w4 ⟨v4, rfl, i4, b4⟩
      have I4 : Hid (Ints w4 B v4 (img ps (set.take (j + 1)))) := by rw [TJ.out]; exact i4.mono s2
      have B4 := Lib.hid (hBl.out.trans (b4.mono s2))
      clear i4 b4
      go_wp2
      go_roundw
      case rel => exact ⟨j + 1, by omega, by go_num, I4, B4⟩
      case measure => simp [intOf]; omega
    · have k1 : decide (j < m) = false := by simpa using c
      obtain rfl : j = m := by omega
      rw [TE.out] at hI
      go_wp2
      go_ret
      exact ⟨_, rfl, by rw [HE.out]; exact hI.out, by rw [HE.out]; exact hBl.out⟩

noncomputable def ApplySet_0 (ps set : List Int) : List Int := if pmB ps = true then (if validSet set ps.length = true then img ps set else []) else []
noncomputable def ApplySet_1 (ps set : List Int) : Int := if pmB ps = true then (if validSet set ps.length = true then 0 else 2) else 1
theorem Apply_bad {ps set : List Int} (h : pmB ps = false) : ApplySet_0 ps set = [] ∧ ApplySet_1 ps set = 1 := by
  have e : ¬ pmB ps = true := by simp [h]
  unfold ApplySet_0 ApplySet_1; rw [if_neg e, if_neg e]; exact ⟨rfl, rfl⟩
theorem Apply_far {ps set : List Int} (h : pmB ps = true) (k : validSet set ps.length = false) : ApplySet_0 ps set = [] ∧ ApplySet_1 ps set = 2 := by
  have e : ¬ validSet set ps.length = true := by simp [k]
  unfold ApplySet_0 ApplySet_1; rw [if_pos h, if_pos h, if_neg e, if_neg e]; exact ⟨rfl, rfl⟩
theorem Apply_ok {ps set : List Int} (h : pmB ps = true) (k : validSet set ps.length = true) : ApplySet_0 ps set = img ps set ∧ ApplySet_1 ps set = 0 := by
  unfold ApplySet_0 ApplySet_1; rw [if_pos h, if_pos h, if_pos k, if_pos k]; exact ⟨rfl, rfl⟩
theorem lenApplySet_0 (ps set : List Int) (hx : SmallL ps) (hy : SmallL set) : (ApplySet_0 ps set).length ≤ 2000000 := by
  unfold ApplySet_0
  split
  · split
    · rename_i h k
      have := img_len ps set set.length (Nat.le_refl _)
      rw [List.take_length] at this
      have := hy.1
      omega
    · simp
  · simp

theorem img_fls {ps set : List Int} (hb : ∀ j, j < set.length → ∃ t : Nat, ps.getD (set.getD j 0).toNat 0 = t ∧ t < 32) : ∀ j, j ≤ set.length → img ps (set.take j) = fls 32 (fun n => decide ((n : Int) ∈ tms (set.take j) ps))
  | 0, _ => by
    rw [fls_congr 32 _ (fun _ => false) (fun n _ => by simp [tms])]
    rfl
  | j + 1, h => by
    obtain ⟨t, e, ht⟩ := hb j (by omega)
    rw [img_take (by omega), e, img_fls hb j (by omega), put_fls t _ 32 ht]
    refine fls_congr _ _ _ fun n _ => ?_
    unfold updC
    rw [tms_take (by omega), e]
    by_cases q : n = t
    · rw [if_pos q, q]; simp
    · rw [if_neg q]
      have : ¬ (n : Int) = (t : Int) := by omega
      simp [this]

set_option maxHeartbeats 1000000 in
theorem iimset (w : World) (u v : Value) (ps set : List Int) (hu : IntsAt w u ps) (hv : IntsAt w v set) (hs : ∀ i, i < set.length → 0 ≤ set.getD i 0 ∧ set.getD i 0 < ps.length)
    (hb : ∀ j, j < set.length → ∃ t : Nat, ps.getD (set.getD j 0).toNat 0 = t ∧ t < 32) (hl : set.length ≤ 100000) (hq : ps.length ≤ 100000) :
    Calls Tryd.prog 67 #[u, v] w fun e w' => ∃ s : Nat, e = .returned (.int .u32 s) ∧ PsOut (tms set ps) s ∧ Below w.heap.size w w' := by
  have H := Lib.hid (imapped w v u set ps hv hu hs hl hq)
  have hmf : ∀ (fn : Fn) (first cap : Array Value) (w : World), (Instr.makeFunc fn first cap).run Tryd.prog w = .ok (.func fn first cap) w := fun _ _ _ _ => rfl
  have LN := tms_length set ps
  have GD : Hid (∀ j, j < set.length → ∃ t : Nat, (tms set ps).getD j 0 = t ∧ t < 32) := fun j hj => by
    obtain ⟨t, e, ht⟩ := hb j hj
    refine ⟨t, ?_, ht⟩
    rw [← e]
    simp [tms, List.getD, hj]
  obtain ⟨T, hT⟩ : ∃ T, tms set ps = T := ⟨_, rfl⟩
  obtain ⟨m, hm⟩ : ∃ m, set.length = m := ⟨_, rfl⟩
  rw [hT] at H GD LN ⊢
  rw [hm] at GD LN hl
  have TK : Hid (∀ j, j < m → T.take (j + 1) = T.take j ++ [T.getD j 0]) := fun j hj => take_getD (by omega)
  have HM := Lib.hid LN
  clear hu hv hs hb hq hT hm LN
  go_enter Tryd.func67, Tryd.ntmps67
  go_wp2_with fail
  refine H.out.mono ?_
  rintro e w1 ⟨r, rfl, i1, b1⟩
  obtain ⟨a, cap, rfl, hc⟩ := part2 i1.at
  rw [HM.out] at hc ⊢
  have HC := Lib.hid hc
  have B1 := Lib.hid b1
  clear i1 b1 hc H
  go_wp2
  go_loop [5, 13] (fun s i => ∃ j x : Nat, j ≤ m ∧ x < 4294967296 ∧ s = .int .u32 x ∧ i = .int .i64 j ∧ Hid (PsOut (T.take j) x)) (fun _ i => m - (intOf i).toNat)
  case atStart => exact ⟨0, 0, by omega, by omega, rfl, rfl, by omega, fun n => by simp⟩
  case round =>
    obtain ⟨j, x, hj, hx, rfl, rfl, hP⟩ := hrel
    by_cases c : j < m
    · have g1 : decide (j < m) = true := by simpa using c
      obtain ⟨t, ht, tl⟩ := GD.out j c
      obtain ⟨g, off, rfl, hgs, cj⟩ := HC.out j c
      rw [ht] at cj
      have TK2 := TK.out j c
      rw [ht] at TK2
      have j0 : (0 : Int) ≤ (j : Int) := by omega
      have j1 : (j : Int) < (m : Int) := by omega
      have w3 := wrapk (n := (j : Int) + 1) (by omega)
      have tp : 2 ^ t < 4294967296 := by
        have : 2 ^ t < 2 ^ 32 := Nat.pow_lt_pow_right (by omega) tl
        omega
      have V : Hid (PsOut (T.take (j + 1)) (x ||| 2 ^ t)) := by
        refine ⟨Nat.or_lt_two_pow (n := 32) (by omega) (by omega), fun n => ?_⟩
        rw [Nat.testBit_or, hP.out.2 n, Nat.testBit_two_pow, TK2]
        by_cases e : t = n
        · subst e; simp
        · have e2 : ¬ (n : Int) = (t : Int) := by omega
          simp [e, e2]
      obtain ⟨y, hy⟩ : ∃ y, 2 ^ t = y := ⟨_, rfl⟩
      have HSP := Lib.hid (fun W : World => isingle t tl W)
      rw [hy] at V tp
      simp only [hy] at HSP
      have E : Hid (bits BinOp.or .u32 (x : Int) (y : Int) = ((x ||| y : Nat) : Int)) := u32_or x y hx tp
      have VL := V.out.1
      clear ht TK2 tp hy hgs
      go_wp2_with (go_at_call 94; refine (HSP.out _).mono ?_; rintro e w' ⟨rfl, ew⟩; rw [ew]; clear ew)
      go_round
      case rel => exact ⟨j + 1, x ||| y, by omega, VL, ⟨by rw [E.out], by go_num, V⟩⟩
      case measure => simp [intOf]; omega
    · have g1 : decide (j < m) = false := by simpa using c
      have ej : j = m := by omega
      have V : Hid (PsOut T x) := by
        have := hP.out
        rwa [ej, ← HM.out, List.take_length] at this
      clear ej
      go_wp2
      go_ret
      exact ⟨x, rfl, V.out, B1.out⟩

end Go.Proofs.YtpckbhelnoeifaaDoor
