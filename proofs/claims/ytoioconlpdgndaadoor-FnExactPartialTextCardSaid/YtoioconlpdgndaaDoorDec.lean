/- Decimal, by both packages. -/
import Derived.Test.YtoioconlpdgndaaDoorArg
import Derived.Test.YtoioconlpdgndaaDoorShelf
import Derived.Laws.IdiomStrings
import Derived.Laws.AppendOwnNone
import Derived.Laws.DeepStrings4
import Derived.Lib.AppendIntMem
namespace Go.Proofs.YtoioconlpdgndaaDoor
open Go.RowKit
set_option linter.unusedVariables false

/-- The table of powers of ten, as the library lays it. -/
def PowTab (w : World) : Prop := Lib.TabIs Tryd.prog w "internal/strconv.uint64pow10" .u64 Lib.pow10Tab
theorem gPow : Tryd.prog.globalNamed "internal/strconv.uint64pow10" = some 0 := by kernel_rfl
theorem PowTab.pos {w : World} (h : PowTab w) : 0 < w.heap.size := World.block_lt_of_cell? w _ (Lib.TabIs.cell h gPow 0 (by rw [Lib.pow10Tab_length]; omega))
theorem PowTab.below {B : Nat} {w w' : World} (h : PowTab w) (hb : Below B w w') (hB : 0 < B) : PowTab w' := by
  have e : w'.var? Tryd.prog "internal/strconv.uint64pow10" = w.var? Tryd.prog "internal/strconv.uint64pow10" := by
    simp only [World.var?, gPow, Option.bind_some]
    rw [hb.block _ hB]
  unfold PowTab Lib.TabIs at h ⊢
  rw [e]; exact h

/-- A slice of bytes of the call's own. -/
def Bts (w : World) (B : Nat) (v : Value) (L : List UInt8) : Prop := w.ownsRow B 5 1 v L.length (L.map (fun b => Value.int .u8 (b.toNat : Int)))
theorem Tryd.infoByte : (Tryd.prog.info? 5).map (fun i => (i.zero, i.size, i.bytes)) = some (some (.int .u8 0), 1, 1) := by kernel_rfl

/-- 'append([]byte{x}, out...)'. -/
theorem wpList_cons {ops : Array Oper} {rest : List Oper} {o : Oper} {a : Act} {Q : Exit → Act → World → Prop} (w : World) (hgd : o.guard = none) (s x : Operand)
    (ho : o.op = .call { callee := .builtin .append, args := #[s, x], argTypes := #[34, 34] })
    (B : Nat) (u : Value) (L : List UInt8) (y : UInt8) (z : Int) (hz : (y.toNat : Int) = z) (hs : a.eval s = .slice (some ⟨w.heap.size, 0, none⟩) 1 1) (hx : a.eval x = u) (h' : Bts w B u L)
    (hl : L.length < 1000000000000) (hB : B ≤ w.heap.size)
    (hK : ∀ v' w', Bts w' B v' (y :: L) → Below B w w' → wpList Tryd.prog ops Q rest (a.put o.dst v') w') :
    wpList Tryd.prog ops Q (o :: rest) a (w.alloc (.cells #[.int .u8 z] 5)) := by
  obtain ⟨i0, hi, hz0, hz1, hz2⟩ := info_parts Tryd.infoByte
  subst hz
  have hl1 : Bts (w.alloc (.cells #[.int .u8 (y.toNat : Int)] 5)) B (.slice (some ⟨w.heap.size, 0, none⟩) 1 1) [y] := World.ownsRow_lit w #[.int .u8 (y.toNat : Int)] 1 hB (by decide) rfl
  have hl2 : Bts (w.alloc (.cells #[.int .u8 (y.toNat : Int)] 5)) B u L := World.ownsRow.alloc h' _
  have bb : Below B w (w.alloc (.cells #[.int .u8 (y.toNat : Int)] 5)) := (Below.refl _ _).alloc hB _
  have hB' : B ≤ (w.alloc (.cells #[.int .u8 (y.toNat : Int)] 5)).heap.size := by simp; omega
  obtain ⟨e1, ⟨rfl, e2⟩ | ⟨g, cap, cur, rfl, e3, e4, e5, e6, e7, e8⟩⟩ := id hl2
  · have e : L = [] := by cases L with | nil => rfl | cons _ _ => simp at e2
    subst e
    refine wpList_append_own_none hgd s x 34 ho B 5 i0 1 Tryd.underlying34 hi _ 1 _ hs hl1 hx ?_
    exact hK _ _ hl1 bb
  · refine wpList_append_own _ hgd s x 34 ho B 5 i0 (.int .u8 0) 1 1 Tryd.underlying34 hi hz0 hz1 hz2 rfl (by decide) _ 1 _ hs hl1 ⟨g, 0, none⟩ L.length cap (L.map (fun b => Value.int .u8 (b.toNat : Int))) hx (by rw [List.length_map]; omega) (fun j q hj => ?_) (by intro q hq; obtain ⟨b, _, rfl⟩ := List.mem_map.1 hq; rfl) (by unfold maxLen; omega) (by omega) hB' ?_
    · have hj' : j < L.length := by
        have := (List.getElem?_eq_some_iff.1 hj).1
        simpa using this
      rw [show (⟨g, 0, none⟩ : Addr).add j = ⟨g, j, none⟩ by unfold Addr.add; split <;> simp_all, World.ownsRow.cellAt hl2 j (by omega)]
      exact hj
    · intro v' w' h2 hg _
      refine hK v' w' ?_ (bb.grown hg hB' (fun k hk => (World.ownsRow.lt hl1 k hk).1))
      unfold Bts
      rw [List.length_cons, List.map_cons, Nat.add_comm]
      exact h2
/-- 'string(out)'. -/
theorem Bts.text {w : World} {B : Nat} {v : Value} {L : List UInt8} (h : Bts w B v L) (hne : L ≠ []) : (convert 34 9 v).run Tryd.prog w = .ok (.string ⟨L.toArray⟩) w := by
  obtain ⟨e1, ⟨rfl, e2⟩ | ⟨g, cap, cur, rfl, e3, e4, e5, e6, e7, e8⟩⟩ := id h
  · exact absurd (List.length_eq_zero_iff.1 e2) hne
  · refine run_convert_bytes_back _ _ _ 5 ⟨g, 0, none⟩ cap L Tryd.underlying34 Tryd.underlying5 Tryd.underlying9 fun j hj => ?_
    rw [show (⟨g, 0, none⟩ : Addr).add j = ⟨g, j, none⟩ by unfold Addr.add; split <;> simp_all, World.ownsRow.cellAt h j (by omega)]
    simp [List.getElem?_eq_getElem hj]
theorem Bts.shape {w : World} {B : Nat} {v : Value} {L : List UInt8} (h : Bts w B v L) : ∃ a cap, v = .slice a L.length cap := by
  obtain ⟨e1, ⟨rfl, e2⟩ | ⟨g, cap, cur, rfl, e3, e4, e5, e6, e7, e8⟩⟩ := h
  · exact ⟨none, 0, by rw [e2]⟩
  · exact ⟨_, cap, rfl⟩

/-- The digits of a number; none of 0. -/
def dgs (m : Nat) : List UInt8 := if m = 0 then [] else Lib.decDigits m
theorem dgs_step {m : Nat} (h : m ≠ 0) : dgs m = dgs (m / 10) ++ [UInt8.ofNat (48 + m % 10)] := by
  unfold dgs
  rw [if_neg h, Lib.decDigits]
  by_cases c : m < 10
  · rw [dif_pos c, if_pos (by omega), Nat.mod_eq_of_lt c]; rfl
  · rw [dif_neg c, if_neg (by omega)]
theorem decDigits_len : ∀ k u, u < 10 ^ (k + 1) → (Lib.decDigits u).length ≤ k + 1
  | 0, u, h => by
    rw [Lib.decDigits, dif_pos (by simpa using h)]; simp
  | k + 1, u, h => by
    rw [Lib.decDigits]
    split
    · simp
    · have := decDigits_len k (u / 10) (by rw [Nat.pow_succ] at h; omega)
      rw [List.length_append]; simp; omega
theorem dgs_len {m : Nat} (h : m ≤ 9223372036854775808) : (dgs m).length ≤ 19 := by
  unfold dgs
  split
  · simp
  · exact decDigits_len 18 m (by omega)
def tx (L : List UInt8) : ByteArray := ⟨L.toArray⟩
/-- A number in decimal. -/
def dec (n : Int) : ByteArray := ⟨(Lib.itoa n).toArray⟩
theorem dec_zero : dec 0 = ⟨#[48]⟩ := by
  unfold dec Lib.itoa
  rw [if_neg (by omega), Lib.decDigits, dif_pos (by decide)]; rfl
theorem dec_pos {a : Nat} (h : a ≠ 0) : dec (a : Int) = ⟨(dgs a).toArray⟩ := by
  unfold dec Lib.itoa dgs
  rw [if_neg (by omega), if_neg h]; rfl
theorem dec_neg {a : Nat} (h : a ≠ 0) : dec (-(a : Int)) = ⟨(45 :: dgs a).toArray⟩ := by
  unfold dec Lib.itoa dgs
  rw [if_pos (by omega), if_neg h, show (-(a : Int)).natAbs = a by omega]

theorem idec (n : Int) (w : World) (h0 : -9223372036854775808 ≤ n) (h1 : n ≤ 9223372036854775807) (ht : PowTab w) :
    Calls Tryd.prog 25 #[.int .i64 n] w fun e w' => e = .returned (.string (dec n)) ∧ Below w.heap.size w w' := by
  have HF := Lib.hid (Go.Proofs.Tryd.strconv_FormatInt_10 n h0 h1 w ht)
  go_enter Tryd.func25, Tryd.ntmps25
  go_wp2_with fail
  refine HF.out.mono ?_
  rintro e w1 ⟨rfl, k, os, rfl⟩
  go_wp2
  go_ret
  exact ⟨rfl, Lib.below_grow _ _ (Nat.le_refl _) _ _⟩

set_option maxHeartbeats 2000000 in
theorem sdec_pos (a : Nat) (w : World) (h1 : a ≤ 9223372036854775807) :
    Calls Tryd.prog 14 #[.int .i64 (a : Int)] w fun e w' => e = .returned (.string (dec a)) ∧ Below w.heap.size w w' := by
  have HL := Lib.hid (dgs_len (m := a) (by omega))
  go_enter Tryd.func14, Tryd.ntmps14
  go_wp2
  obtain ⟨wo, hwo⟩ : ∃ wo, w.alloc (.cells #[] 5) = wo := ⟨_, rfl⟩
  have HI : Hid (Bts wo w.heap.size (.slice (some ⟨w.heap.size, 0, none⟩) 0 0) []) := by rw [← hwo]; exact World.ownsRow_made w #[] 0 (Nat.le_refl _) (by decide) rfl
  have HB : Hid (Below w.heap.size w wo) := by rw [← hwo]; exact (Below.refl _ _).alloc (Nat.le_refl _) _
  rw [hwo]
  clear hwo
  obtain ⟨B, hB⟩ : ∃ B, w.heap.size = B := ⟨_, rfl⟩
  rw [hB] at HI HB ⊢
  have HE := Lib.hid hB
  clear hB
  go_loopw [3, 4] (fun v k wr => ∃ (m : Nat) (L : List UInt8), m ≤ a ∧ k = .int .i64 (m : Int) ∧ Hid (dgs m ++ L = dgs a) ∧ Hid (Bts wr B v L) ∧ Hid (Below B w wr)) (fun _ k _ => (intOf k).toNat)
  case atStart => exact ⟨a, [], by omega, rfl, List.append_nil _, HI, HB⟩
  case round =>
    obtain ⟨m, L, hm, rfl, hD, hI, hBl⟩ := hrel
    have s2 : B ≤ wr.heap.size := by have := hBl.out.size; have := HE.out; omega
    have hlen : L.length ≤ 19 := by
      have a1 := congrArg List.length hD.out
      have a2 := HL.out
      rw [List.length_append] at a1
      omega
    by_cases c : m = 0
    · subst c
      have eL : Hid (L = dgs a) := hD.out
      by_cases z : L = []
      · subst z
        have ea : a = 0 := by
          by_cases e : a = 0
          · exact e
          · have := eL.out
            rw [dgs_step e] at this
            have := congrArg List.length this
            simp at this
        have V : Hid (dec (a : Int) = ⟨#[48]⟩) := by unfold Hid; rw [ea]; exact dec_zero
        obtain ⟨av, cv, rfl⟩ := hI.out.shape
        clear ea
        go_wp2
        go_ret
        exact ⟨by rw [V.out]; rfl, by rw [HE.out]; exact hBl.out⟩
      · have hne : 0 < L.length := List.length_pos_iff.2 z
        have ea : a ≠ 0 := fun e => by rw [eL.out, e] at z; exact z rfl
        have V : Hid (dec (a : Int) = ⟨L.toArray⟩) := by unfold Hid; rw [dec_pos ea, eL.out]
        obtain ⟨av, cv, rfl⟩ := hI.out.shape
        have hcv := hI.out.text z
        have t1 : ((L.length : Int) == 0) = false := by simp; omega
        have t1' : (L.length == 0) = false := by simp; omega
        have t2 : decide ((a : Int) < 0) = false := by simp
        clear z ea
        go_wp2
        go_ret
        exact ⟨by rw [V.out]; rfl, by rw [HE.out]; exact hBl.out⟩
    · have t1 : ((m : Int) != 0) = true := by simp; omega
      have t1' : (m != 0) = true := by simpa using c
      have t2 : decide ((m : Int) % 10 < 0) = false := by simp; omega
      obtain ⟨y, hy⟩ : ∃ y, UInt8.ofNat (48 + m % 10) = y := ⟨_, rfl⟩
      have ey : (y.toNat : Int) = 48 + (m : Int) % 10 := by rw [← hy]; simp; omega
      have D2 : Hid (dgs (m / 10) ++ (y :: L) = dgs a) := by
        unfold Hid
        rw [← hD.out, dgs_step c, hy]; simp
      clear hy
      go_wp2_with (at_builtin; refine wpList_cons _ (by rfl) _ _ (by rfl) B _ L y _ ey (by rfl) (by rfl) hI.out (by omega) s2 ?_; intro v' w4 hn hb; have HN' := Lib.hid hn; have HB2 := Lib.hid hb; clear hn hb)
      go_roundw
      case rel => exact ⟨m / 10, y :: L, by omega, congrArg (Value.int .i64) (by omega), D2, HN', hBl.out.trans HB2.out⟩
      case measure => simp [intOf]; omega
set_option maxHeartbeats 2000000 in
theorem sdec_neg (a : Nat) (w : World) (a1 : 1 ≤ a) (h1 : a ≤ 9223372036854775808) :
    Calls Tryd.prog 14 #[.int .i64 (-(a : Int))] w fun e w' => e = .returned (.string (dec (-(a : Int)))) ∧ Below w.heap.size w w' := by
  have HL := Lib.hid (dgs_len (m := a) (by omega))
  go_enter Tryd.func14, Tryd.ntmps14
  go_wp2
  obtain ⟨wo, hwo⟩ : ∃ wo, w.alloc (.cells #[] 5) = wo := ⟨_, rfl⟩
  have HI : Hid (Bts wo w.heap.size (.slice (some ⟨w.heap.size, 0, none⟩) 0 0) []) := by rw [← hwo]; exact World.ownsRow_made w #[] 0 (Nat.le_refl _) (by decide) rfl
  have HB : Hid (Below w.heap.size w wo) := by rw [← hwo]; exact (Below.refl _ _).alloc (Nat.le_refl _) _
  rw [hwo]
  clear hwo
  obtain ⟨B, hB⟩ : ∃ B, w.heap.size = B := ⟨_, rfl⟩
  rw [hB] at HI HB ⊢
  have HE := Lib.hid hB
  clear hB
  go_loopw [3, 4] (fun v k wr => ∃ (m : Nat) (L : List UInt8), m ≤ a ∧ k = .int .i64 (-(m : Int)) ∧ Hid (dgs m ++ L = dgs a) ∧ Hid (Bts wr B v L) ∧ Hid (Below B w wr)) (fun _ k _ => (-(intOf k)).toNat)
  case atStart => exact ⟨a, [], by omega, rfl, List.append_nil _, HI, HB⟩
  case round =>
    obtain ⟨m, L, hm, rfl, hD, hI, hBl⟩ := hrel
    have s2 : B ≤ wr.heap.size := by have := hBl.out.size; have := HE.out; omega
    have hlen : L.length ≤ 19 := by
      have a1 := congrArg List.length hD.out
      have a2 := HL.out
      rw [List.length_append] at a1
      omega
    by_cases c : m = 0
    · subst c
      have eL : Hid (L = dgs a) := hD.out
      by_cases z : L = []
      · subst z
        have ea : a = 0 := by
          by_cases e : a = 0
          · exact e
          · have := eL.out
            rw [dgs_step e] at this
            have := congrArg List.length this
            simp at this
        exact absurd ea (by omega)
      · have hne : 0 < L.length := List.length_pos_iff.2 z
        have ea : a ≠ 0 := fun e => by rw [eL.out, e] at z; exact z rfl
        have V : Hid (dec (-(a : Int)) = ⟨(45 :: L).toArray⟩) := by unfold Hid; rw [dec_neg ea, eL.out]
        have sz : ¬ ((⟨#[45]⟩ : ByteArray).size + (⟨L.toArray⟩ : ByteArray).size > 9223372036854775807) := by simp [ByteArray.size]; omega
        have ap : (⟨#[45]⟩ : ByteArray) ++ ⟨L.toArray⟩ = ⟨(45 :: L).toArray⟩ := by rw [show (⟨#[45]⟩ : ByteArray) = ⟨[45].toArray⟩ from rfl, ByteArray.mk_append_mk]; rfl
        obtain ⟨av, cv, rfl⟩ := hI.out.shape
        have hcv := hI.out.text z
        have t1 : ((L.length : Int) == 0) = false := by simp; omega
        have t1' : (L.length == 0) = false := by simp; omega
        have t2 : decide (-(a : Int) < 0) = true := by simp; omega
        have t2' : decide (0 < (a : Int)) = true := by simp; omega
        have t2'' : decide (0 < a) = true := by simp; omega
        clear z ea
        go_wp2
        go_ret
        exact ⟨by rw [V.out]; rfl, by rw [HE.out]; exact hBl.out⟩
    · have t1 : (-(m : Int) != 0) = true := by simp; omega
      have t1' : (m != 0) = true := by simpa using c
      have e1 : (-(m : Int)).tmod 10 = -((m : Int) % 10) := by rw [Int.neg_tmod, Int.tmod_eq_emod_of_nonneg (by omega)]
      have e2 : (-(m : Int)).tdiv 10 = -((m : Int) / 10) := by rw [Int.neg_tdiv, Int.tdiv_eq_ediv_of_nonneg (by omega)]
      have w1 := IntWalk.i64_in (-((m : Int) % 10)) (by omega)
      have w2 := IntWalk.i64_in ((m : Int) % 10) (by omega)
      have w3 := IntWalk.i64_in (-((m : Int) / 10)) (by omega)
      by_cases q : m % 10 = 0
      · have t2 : decide ((0 : Int) < (m : Int) % 10) = false := by simp; omega
        obtain ⟨y, hy⟩ : ∃ y, UInt8.ofNat (48 + m % 10) = y := ⟨_, rfl⟩
        have ey : (y.toNat : Int) = 48 + -((m : Int) % 10) := by rw [← hy]; simp; omega
        have D2 : Hid (dgs (m / 10) ++ (y :: L) = dgs a) := by
          unfold Hid
          rw [← hD.out, dgs_step c, hy]; simp
        clear hy
        go_wp2_with (at_builtin; refine wpList_cons _ (by rfl) _ _ (by rfl) B _ L y _ ey (by rfl) (by rfl) hI.out (by omega) s2 ?_; intro v' w4 hn hb; have HN' := Lib.hid hn; have HB2 := Lib.hid hb; clear hn hb)
        go_roundw
        case rel => exact ⟨m / 10, y :: L, by omega, congrArg (Value.int .i64) (by omega), D2, HN', hBl.out.trans HB2.out⟩
        case measure => simp [intOf]; omega
      · have t2 : decide ((0 : Int) < (m : Int) % 10) = true := by simp; omega
        obtain ⟨y, hy⟩ : ∃ y, UInt8.ofNat (48 + m % 10) = y := ⟨_, rfl⟩
        have ey : (y.toNat : Int) = 48 + (m : Int) % 10 := by rw [← hy]; simp; omega
        have D2 : Hid (dgs (m / 10) ++ (y :: L) = dgs a) := by
          unfold Hid
          rw [← hD.out, dgs_step c, hy]; simp
        clear hy
        go_wp2_with (at_builtin; refine wpList_cons _ (by rfl) _ _ (by rfl) B _ L y _ ey (by rfl) (by rfl) hI.out (by omega) s2 ?_; intro v' w4 hn hb; have HN' := Lib.hid hn; have HB2 := Lib.hid hb; clear hn hb)
        go_roundw
        case rel => exact ⟨m / 10, y :: L, by omega, congrArg (Value.int .i64) (by omega), D2, HN', hBl.out.trans HB2.out⟩
        case measure => simp [intOf]; omega
end Go.Proofs.YtoioconlpdgndaaDoor
