/- l01Split at strokes, by the model. -/
import Derived.Test.YtaipgfahkpnooaaCut
import Derived.Test.YtaipgfahkpnooaaStr
namespace Go.Proofs.Ytaipgfahkpnooaa
open Go.RowKit
set_option linter.unusedVariables false

/-- The parts, as texts. -/
def ctB7 (s : ByteArray) : List ByteArray := (cut 47 s.data.toList).map fun l => ⟨l.toArray⟩
/-- The byte at a place. -/
def cb7 (s : ByteArray) (i : Nat) : Nat := (s.get! i).toNat
theorem cb7_get (s : ByteArray) (i : Nat) (h : i < s.size) : cb7 s i = s[i].toNat := by
  unfold cb7
  obtain ⟨d⟩ := s
  simp only [ByteArray.get!]
  rw [getElem!_pos d i h]
  rfl
/-- The parts behind i bytes, and where the last part begins. -/
def pk7 (s : ByteArray) : Nat → List ByteArray × Nat
  | 0 => ([], 0)
  | i + 1 => if cb7 s i = 47 then ((pk7 s i).1 ++ [s.extract (pk7 s i).2 i], i + 1) else pk7 s i
theorem pk7_inv (s : ByteArray) : ∀ i, i ≤ s.size → (pk7 s i).2 ≤ i ∧ (pk7 s i).1.length ≤ i ∧ (pk7 s i).1.map (fun x => x.data.toList) ++ cut 47 (s.data.toList.drop (pk7 s i).2) = cut 47 s.data.toList ∧ ∀ k, (pk7 s i).2 ≤ k → k < i → cb7 s k ≠ 47
  | 0, _ => ⟨Nat.le_refl _, Nat.le_refl _, by simp [pk7], fun k _ h => by omega⟩
  | i + 1, hi => by
    obtain ⟨a, b, c, d⟩ := pk7_inv s i (by omega)
    obtain ⟨P, hP⟩ : ∃ P, (pk7 s i).1 = P := ⟨_, rfl⟩
    obtain ⟨q, hq⟩ : ∃ q, (pk7 s i).2 = q := ⟨_, rfl⟩
    rw [hP, hq] at c
    rw [hq] at a d
    rw [hP] at b
    by_cases h : cb7 s i = 47
    · rw [pk7, if_pos h, hP, hq]
      refine ⟨Nat.le_refl _, by simp; omega, ?_, fun k h1 h2 => by have h1 : i + 1 ≤ k := h1; omega⟩
      show (P ++ [s.extract q i]).map (fun x => x.data.toList) ++ cut 47 (s.data.toList.drop (i + 1)) = _
      rw [← c, List.map_append, List.append_assoc]
      congr 1
      have L : s.data.toList.length = s.size := rfl
      have e1 : s.data.toList.drop q = (s.data.toList.drop q).take (i - q) ++ (47 : UInt8) :: s.data.toList.drop (i + 1) := by
        have g : s.data.toList[i]'(by omega) = (47 : UInt8) := by
          apply UInt8.toNat_inj.1
          rw [cb7_get s i (by omega)] at h
          rw [show (47 : UInt8).toNat = 47 from rfl, ← h]
          rfl
        have dd : s.data.toList.drop i = (47 : UInt8) :: s.data.toList.drop (i + 1) := by rw [List.drop_eq_getElem_cons (by omega), g]
        have e := (List.take_append_drop (i - q) (s.data.toList.drop q)).symm
        rw [List.drop_drop, show q + (i - q) = i by omega, dd] at e
        exact e
      rw [e1, cut_part 47 _ _ (fun x hx => ?_)]
      · rw [List.map_cons, List.map_nil, Lib.extract_data]; rfl
      · obtain ⟨k, hk, rfl⟩ := List.mem_iff_getElem.1 hx
        have hk' : k < i - q := by rw [List.length_take] at hk; omega
        have := d (q + k) (by omega) (by omega)
        intro e
        apply this
        rw [cb7_get s (q + k) (by omega)]
        rw [List.getElem_take, List.getElem_drop] at e
        exact congrArg UInt8.toNat e
    · rw [pk7, if_neg h, hP, hq]
      refine ⟨by show q ≤ i + 1; omega, by show P.length ≤ i + 1; omega, c, fun k h1 h2 => ?_⟩
      by_cases e : k = i
      · rw [e]; exact h
      · exact d k h1 (by omega)
theorem pk7_end (s : ByteArray) : (pk7 s s.size).1 ++ [s.extract (pk7 s s.size).2 s.size] = ctB7 s := by
  obtain ⟨a, b, c, d⟩ := pk7_inv s s.size (Nat.le_refl _)
  have L : s.data.toList.length = s.size := rfl
  rw [cut_none 47 (s.data.toList.drop (pk7 s s.size).2) (fun x hx => ?_)] at c
  · unfold ctB7
    rw [← c, ← ct_data ((pk7 s s.size).1 ++ [s.extract (pk7 s s.size).2 s.size]), List.map_append (l₂ := [s.extract (pk7 s s.size).2 s.size])]
    congr 2
    rw [List.map_cons, List.map_nil, Lib.extract_data, List.take_of_length_le (by rw [List.length_drop]; omega)]
  · obtain ⟨k, hk, rfl⟩ := List.mem_iff_getElem.1 hx
    have hk' : k < s.size - (pk7 s s.size).2 := by rw [List.length_drop] at hk; omega
    have := d ((pk7 s s.size).2 + k) (by omega) (by omega)
    intro e
    apply this
    rw [cb7_get s ((pk7 s s.size).2 + k) (by omega)]
    rw [List.getElem_drop] at e
    exact congrArg UInt8.toNat e

set_option maxHeartbeats 2000000 in
theorem scut7 (s : ByteArray) (w : World) (hs : s.size ≤ 1048576) :
    Calls Try.prog 43 #[.string s, .int .u8 47] w fun e w' => ∃ v, e = .returned v ∧ Strs w' w.heap.size v (ctB7 s) ∧ Below w.heap.size w w' := by
  obtain ⟨m, hm⟩ : ∃ m, s.size = m := ⟨_, rfl⟩
  have PF := Lib.hid (fun i h => pk7_inv s i h)
  have PE := Lib.hid (pk7_end s)
  have PS : Hid (∀ i, i < m → pk7 s (i + 1) = if cb7 s i = 47 then ((pk7 s i).1 ++ [s.extract (pk7 s i).2 i], i + 1) else pk7 s i) := fun i _ => rfl
  have HM := Lib.hid hm
  go_enter Try.func43, Try.ntmps43
  go_wp2
  obtain ⟨wo, hwo⟩ : ∃ wo, w.alloc (.cells #[] 9) = wo := ⟨_, rfl⟩
  have HI : Hid (Strs wo w.heap.size (.slice (some ⟨w.heap.size, 0, none⟩) 0 0) []) := by rw [← hwo]; exact World.ownsRow_made w #[] 0 (Nat.le_refl _) (by decide) rfl
  have HB : Hid (Below w.heap.size w wo) := by rw [← hwo]; exact (Below.refl _ _).alloc (Nat.le_refl _) _
  rw [hwo]
  clear hwo
  obtain ⟨B, hB⟩ : ∃ B, w.heap.size = B := ⟨_, rfl⟩
  rw [hB] at HI HB ⊢
  have HE := Lib.hid hB
  clear hB hm
  go_loopw [5, 6, 7] (fun v f i wr => ∃ (j q : Nat), j ≤ s.size ∧ q ≤ j ∧ i = .int .i64 j ∧ f = .int .i64 q ∧ Hid ((pk7 s j).2 = q) ∧ Hid (Strs wr B v (pk7 s j).1) ∧ Hid (Below B w wr)) (fun _ _ i _ => s.size - (intOf i).toNat)
  case atStart => exact ⟨0, 0, by omega, by omega, rfl, rfl, rfl, HI, HB⟩
  case round =>
    obtain ⟨j, q, hj, hqj, rfl, rfl, hQ, hI, hBl⟩ := hrel
    have s2 : B ≤ wr.heap.size := by have := hBl.out.size; have := HE.out; omega
    have hlen : (pk7 s j).1.length < 1000000000000 := by
      have := (PF.out j hj).2.1
      omega
    by_cases c : j < s.size
    · have w3 := IntWalk.i64_in ((j : Int) + 1) (by omega)
      have j0 : (0 : Int) ≤ (j : Int) := by omega
      have q0 : (0 : Int) ≤ (q : Int) := by omega
      have qj : (q : Int) ≤ (j : Int) := by omega
      have js : (j : Int) ≤ (s.size : Int) := by omega
      have P := PS.out j (by have := HM.out; omega)
      rw [cb7_get s j c] at P
      by_cases e : s[j].toNat = 47
      · have g2 : (s[j].toNat == 47) = true := by simpa using e
        have g2' : ((s[j].toNat : Int) == 47) = true := by simp; omega
        rw [if_pos e, hQ.out] at P
        have P1 : Hid ((pk7 s j).1 ++ [s.extract q j] = (pk7 s (j + 1)).1) := by unfold Hid; rw [P]
        have P2 : Hid ((pk7 s (j + 1)).2 = j + 1) := by unfold Hid; rw [P]
        clear P e
        go_wp2_with (at_builtin; refine wpList_pushS _ (by rfl) _ _ (by rfl) B _ _ (by rfl) hI.out (s.extract q j) _ (by rfl) hlen s2 ?_; intro v' w4 hn hb; have HN' := Lib.hid hn; have HB2 := Lib.hid hb; clear hn hb)
        go_roundw
        case rel => exact ⟨j + 1, j + 1, by omega, by omega, by go_num, by go_num, P2, by unfold Hid; rw [← P1.out]; exact HN'.out, hBl.out.trans HB2.out⟩
        case measure => simp [intOf]; omega
      · have g2 : (s[j].toNat == 47) = false := by simpa using e
        have g2' : ((s[j].toNat : Int) == 47) = false := by simp; omega
        rw [if_neg e] at P
        have P1 : Hid (pk7 s (j + 1) = pk7 s j) := P
        clear P e
        go_wp2
        go_roundw
        case rel => exact ⟨j + 1, q, by omega, by omega, by go_num, rfl, by unfold Hid; rw [P1.out]; exact hQ.out, by unfold Hid; rw [P1.out]; exact hI.out, hBl⟩
        case measure => simp [intOf]; omega
    · have ej : j = s.size := by omega
      have q0 : (0 : Int) ≤ (q : Int) := by omega
      have qs : (q : Int) ≤ (s.size : Int) := by omega
      have V : Hid ((pk7 s j).1 ++ [s.extract q s.size] = ctB7 s) := by
        unfold Hid
        rw [← PE.out, ← ej, hQ.out]
      clear ej
      go_wp2_with (at_builtin; refine wpList_pushS _ (by rfl) _ _ (by rfl) B _ _ (by rfl) hI.out (s.extract q s.size) _ (by rfl) hlen s2 ?_; intro v' w4 hn hb; have HN' := Lib.hid hn; have HB2 := Lib.hid hb; clear hn hb)
      go_ret
      exact ⟨_, rfl, by rw [HE.out, ← V.out]; exact HN'.out, by rw [HE.out]; exact hBl.out.trans HB2.out⟩
end Go.Proofs.Ytaipgfahkpnooaa
