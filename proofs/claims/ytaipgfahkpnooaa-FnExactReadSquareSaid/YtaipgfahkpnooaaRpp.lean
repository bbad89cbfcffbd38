/- ReadPartial: what is read. Mathematics alone. -/
import Derived.Test.YtaipgfahkpnooaaRsp
import Derived.Test.YtaipgfahkpnooaaPt
namespace Go.Proofs.Ytaipgfahkpnooaa
open Go.RowKit
set_option linter.unusedVariables false

/-- A digit, or the mark of an empty cell. -/
def dgp (b : UInt8) : Prop := b.toNat = 46 ∨ dg7 b
def vlp (b : UInt8) : Int := if b.toNat = 46 then -1 else (b.toNat : Int) - 48
theorem vlp_dot {b : UInt8} (h : b.toNat = 46) : vlp b = -1 := by unfold vlp; rw [if_pos h]
theorem vlp_dig {b : UInt8} (h : dg7 b) : vlp b = (b.toNat : Int) - 48 := by unfold vlp; rw [if_neg (fun k => by have := h.1; omega)]
def rowp (p : List UInt8) : List Int := p.map vlp
def rowsp (l : List UInt8) : List (List Int) := (cut 47 l).map rowp
def okp (l : List UInt8) : Prop := ∀ b ∈ l, b = 47 ∨ dgp b
noncomputable def okpB (l : List UInt8) : Bool := @decide (okp l) (Classical.propDecidable _)
theorem okpB_true {l : List UInt8} (h : okp l) : okpB l = true := @decide_eq_true _ (Classical.propDecidable _) h
theorem okpB_false {l : List UInt8} (h : ¬ okp l) : okpB l = false := @decide_eq_false _ (Classical.propDecidable _) h
theorem of_okpB {l : List UInt8} (h : okpB l = true) : okp l := @of_decide_eq_true _ (Classical.propDecidable _) h
noncomputable def ReadPartial_1 (s : ByteArray) : Bool := @decide (okp s.data.toList ∧ IsPart (rowsp s.data.toList)) (Classical.propDecidable _)
noncomputable def ReadPartial_0 (s : ByteArray) : List (List Int) := if ReadPartial_1 s = true then rowsp s.data.toList else []
theorem readp_yes {s : ByteArray} (h : okp s.data.toList) (z : ptB (rowsp s.data.toList) = true) : ReadPartial_1 s = true ∧ ReadPartial_0 s = rowsp s.data.toList := by
  have e : ReadPartial_1 s = true := @decide_eq_true _ (Classical.propDecidable _) ⟨h, of_ptB z⟩
  exact ⟨e, by unfold ReadPartial_0; rw [if_pos e]⟩
theorem readp_no {s : ByteArray} (h : ¬ (okp s.data.toList ∧ IsPart (rowsp s.data.toList))) : ReadPartial_1 s = false ∧ ReadPartial_0 s = [] := by
  have e : ReadPartial_1 s = false := @decide_eq_false _ (Classical.propDecidable _) h
  exact ⟨e, by unfold ReadPartial_0; rw [e]; rfl⟩
theorem readp_nopt {s : ByteArray} (z : ptB (rowsp s.data.toList) = false) : ReadPartial_1 s = false ∧ ReadPartial_0 s = [] :=
  readp_no fun k => by rw [ptB_true k.2] at z; cases z
theorem readp_bad {s : ByteArray} {b : UInt8} (hb : b ∈ s.data.toList) (h1 : b ≠ 47) (h2 : ¬ dgp b) : ReadPartial_1 s = false ∧ ReadPartial_0 s = [] :=
  readp_no fun k => by rcases k.1 b hb with e | e; exact h1 e; exact h2 e
theorem okp_bad {l : List UInt8} {b : UInt8} (hb : b ∈ l) (h1 : b ≠ 47) (h2 : ¬ dgp b) : okpB l = false :=
  okpB_false fun k => by rcases k b hb with e | e; exact h1 e; exact h2 e
theorem lenReadPartial_0 (s : ByteArray) (hs : s.size ≤ 1048576) : (ReadPartial_0 s).length + tot (ReadPartial_0 s) ≤ 2000000 := by
  by_cases h : okp s.data.toList ∧ IsPart (rowsp s.data.toList)
  · rw [(readp_yes h.1 (ptB_true h.2)).2]
    obtain ⟨R, hR⟩ : ∃ R, rowsp s.data.toList = R := ⟨_, rfl⟩
    rw [hR] at h ⊢
    have h1 := h.2.hi
    have := tot_sq (xss := R) R.length (fun x hx => by
      obtain ⟨k, hk, rfl⟩ := List.mem_iff_getElem.1 hx
      have := h.2.row k hk
      simp only [List.getD, List.getElem?_eq_getElem hk, Option.getD_some] at this
      omega)
    have : R.length * R.length ≤ 10 * 10 := Nat.mul_le_mul h1 h1
    omega
  · rw [(readp_no h).2]; decide
/-- A square has no empty cell. -/
theorem rowsp_eq {l : List UInt8} (h : ok7 l) : rowsp l = rows7 l := by
  unfold rowsp rows7
  refine List.map_congr_left fun p hp => ?_
  unfold rowp row7
  refine List.map_congr_left fun b hb => ?_
  have := cut_mem 47 l p hp b hb
  rcases h b this.1 with e | e
  · exact absurd e this.2
  · rw [vlp_dig e]; rfl
theorem sq_ok7 {l : List UInt8} (h : okp l) (z : sqB (rowsp l) = true) : ok7 l := fun b hb => by
  rcases cut_cover 47 l b hb with e | ⟨p, hp, hb2⟩
  · exact .inl e
  · rcases h b hb with e | e
    · exact .inl e
    · right
      rcases e with e | e
      · exfalso
        have S := of_sqB z
        obtain ⟨k, hk, rfl⟩ := List.mem_iff_getElem.1 hp
        obtain ⟨i, hi, rfl⟩ := List.mem_iff_getElem.1 hb2
        have lk : k < (rowsp l).length := by unfold rowsp; rw [List.length_map]; exact hk
        have g : (rowsp l).getD k [] = rowp (cut 47 l)[k] := by
          unfold rowsp
          simp [List.getD, List.getElem?_eq_getElem hk]
        have li : i < (rowp (cut 47 l)[k]).length := by unfold rowp; rw [List.length_map]; exact hi
        have r := (S.row k lk).2
        rw [g] at r
        have := (of_pmB r).2 i li
        unfold okPm at this
        have e2 : (rowp (cut 47 l)[k]).getD i 0 = vlp (cut 47 l)[k][i] := by
          unfold rowp
          simp [List.getD, List.getElem?_eq_getElem hi]
        rw [e2, vlp_dot e] at this
        omega
      · exact e
theorem readsq_no {s : ByteArray} (h : okpB s.data.toList = false) : ReadSquare_1 s = false ∧ ReadSquare_0 s = [] :=
  read_no fun k => by
    rw [okpB_true (fun b hb => (k.1 b hb).imp id .inr)] at h; cases h
theorem readsq_nosq {s : ByteArray} (z : sqB (rowsp s.data.toList) = false) : ReadSquare_1 s = false ∧ ReadSquare_0 s = [] :=
  read_no fun k => by
    rw [rowsp_eq k.1, sqB_true k.2] at z; cases z
theorem readsq_yes {s : ByteArray} (h : okpB s.data.toList = true) (z : sqB (rowsp s.data.toList) = true) : ReadSquare_1 s = true ∧ ReadSquare_0 s = rowsp s.data.toList := by
  have k := sq_ok7 (of_okpB h) z
  rw [rowsp_eq k] at z ⊢
  exact read_yes k z
theorem readpt_no {s : ByteArray} (h : okpB s.data.toList = false) : ReadPartial_1 s = false ∧ ReadPartial_0 s = [] :=
  readp_no fun k => by rw [okpB_true k.1] at h; cases h
end Go.Proofs.Ytaipgfahkpnooaa
