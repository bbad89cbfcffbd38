/- The parts of a text between bytes. Mathematics alone. -/
import Derived.Test.YtaipgfahkpnooaaIn
import Derived.Lib.SplitLaws
namespace Go.Proofs.Ytaipgfahkpnooaa
open Go.RowKit
set_option linter.unusedVariables false

/-- A byte put ahead of the first part. -/
def cutPut (b : UInt8) : List (List UInt8) → List (List UInt8)
  | [] => [[b]]
  | p :: r => (b :: p) :: r
/-- The parts of a text between the bytes c. -/
def cut (c : UInt8) : List UInt8 → List (List UInt8)
  | [] => [[]]
  | b :: l => if b = c then [] :: cut c l else cutPut b (cut c l)
theorem cut_ne (c : UInt8) : ∀ l, cut c l ≠ []
  | [] => by simp [cut]
  | b :: l => by
    rw [cut]
    by_cases h : b = c
    · rw [if_pos h]; simp
    · rw [if_neg h]
      cases e : cut c l with
      | nil => exact absurd e (cut_ne c l)
      | cons p r => simp [cutPut]
theorem cutPut_length (b : UInt8) {L : List (List UInt8)} (h : L ≠ []) : (cutPut b L).length = L.length := by
  cases L with
  | nil => exact absurd rfl h
  | cons p r => rfl
theorem cut_length (c : UInt8) : ∀ l, (cut c l).length = l.count c + 1
  | [] => rfl
  | b :: l => by
    rw [cut]
    by_cases h : b = c
    · rw [if_pos h, List.length_cons, cut_length c l, h]; simp
    · rw [if_neg h, cutPut_length b (cut_ne c l), cut_length c l, List.count_cons_of_ne (by simpa using h)]
theorem cut_none (c : UInt8) : ∀ l, (∀ b ∈ l, b ≠ c) → cut c l = [l]
  | [], _ => rfl
  | b :: l, h => by
    rw [cut, if_neg (h b (List.mem_cons_self ..)), cut_none c l (fun x hx => h x (List.mem_cons_of_mem _ hx))]
    rfl
theorem cut_part (c : UInt8) : ∀ u l, (∀ b ∈ u, b ≠ c) → cut c (u ++ c :: l) = u :: cut c l
  | [], l, _ => by rw [List.nil_append, cut, if_pos rfl]
  | b :: u, l, h => by
    rw [List.cons_append, cut, if_neg (h b (List.mem_cons_self ..)), cut_part c u l (fun x hx => h x (List.mem_cons_of_mem _ hx))]
    rfl
theorem cut_mem_length (c : UInt8) : ∀ l, ∀ p ∈ cut c l, p.length ≤ l.length
  | [], p, h => by simp only [cut, List.mem_singleton] at h; rw [h]; exact Nat.le_refl _
  | b :: l, p, h => by
    rw [cut] at h
    by_cases e : b = c
    · rw [if_pos e] at h
      rcases List.mem_cons.1 h with rfl | h
      · exact Nat.zero_le _
      · have := cut_mem_length c l p h
        rw [List.length_cons]; omega
    · rw [if_neg e] at h
      cases k : cut c l with
      | nil => exact absurd k (cut_ne c l)
      | cons q r =>
        rw [k] at h
        rcases List.mem_cons.1 h with rfl | h
        · have := cut_mem_length c l q (by rw [k]; exact List.mem_cons_self ..)
          rw [List.length_cons, List.length_cons]; omega
        · have := cut_mem_length c l p (by rw [k]; exact List.mem_cons_of_mem _ h)
          rw [List.length_cons]; omega
theorem index_cons (b c : UInt8) (l : List UInt8) (h : b ≠ c) : Lib.index (b :: l) [c] = if Lib.index l [c] == -1 then -1 else Lib.index l [c] + 1 := by
  have hp : ([c] : List UInt8).isPrefixOf (b :: l) = false := by simp [List.isPrefixOf, Ne.symm h]
  rw [Lib.index, hp]; simp
/-- What the library cuts. -/
theorem splitK_cut (c : UInt8) : ∀ l, Lib.splitK [c] 0 (Lib.count l [c]) l = cut c l
  | [] => by rw [Lib.count_miss (by simp [Lib.index])]; rfl
  | b :: l => by
    have ih := splitK_cut c l
    by_cases h : b = c
    · subst h
      have hix : Lib.index (b :: l) [b] = 0 := by rw [Lib.index]; simp [List.isPrefixOf]
      rw [Lib.count_cons_eq, Nat.add_comm, Lib.splitK, hix, cut, if_pos rfl, ← ih]
      simp
    · rw [Lib.count_cons_ne b c l h, cut, if_neg h, ← ih]
      have hix := index_cons b c l h
      cases k : Lib.count l [c] with
      | zero => rfl
      | succ k =>
        have hne : Lib.index l [c] ≠ -1 := fun e => by rw [Lib.count_miss e] at k; omega
        have hge := Lib.index_ge l [c]
        obtain ⟨j, hj⟩ : ∃ j : Nat, Lib.index l [c] = j := ⟨(Lib.index l [c]).toNat, by omega⟩
        have e1 : ((j : Int) == -1) = false := beq_eq_false_iff_ne.2 (by omega)
        have e2 : ((j : Int) + 1 == -1) = false := beq_eq_false_iff_ne.2 (by omega)
        rw [hj, e1] at hix
        have hix : Lib.index (b :: l) [c] = (j : Int) + 1 := hix
        rw [Lib.splitK, Lib.splitK, hix, hj, e1, e2, if_neg (by simp), if_neg (by simp)]
        have e3 : ((j : Int) + 1).toNat = j + 1 := by omega
        rw [e3, Int.toNat_natCast]
        simp [cutPut]
/-- The parts, as texts. -/
def ctB (s : ByteArray) : List ByteArray := (cut 44 s.data.toList).map fun l => ⟨l.toArray⟩
theorem ct_data : ∀ L : List ByteArray, (L.map (fun x => x.data.toList)).map (fun l => (⟨l.toArray⟩ : ByteArray)) = L
  | [] => rfl
  | x :: L => by rw [List.map_cons, List.map_cons, ct_data L]
theorem ct_lib (s : ByteArray) : Lib.splitB ⟨#[44]⟩ 0 (Lib.countB s ⟨#[44]⟩) s = ctB s := by
  have := Lib.splitB_data ⟨#[44]⟩ 0 (Lib.countB s ⟨#[44]⟩) s
  have e : Lib.splitK (⟨#[44]⟩ : ByteArray).data.toList 0 (Lib.countB s ⟨#[44]⟩) s.data.toList = cut 44 s.data.toList := splitK_cut 44 s.data.toList
  rw [e] at this
  unfold ctB
  rw [← this, ct_data]
theorem ct_length (s : ByteArray) : (ctB s).length = s.data.toList.count 44 + 1 := by unfold ctB; rw [List.length_map, cut_length]
theorem ct_countB (s : ByteArray) : Lib.countB s ⟨#[44]⟩ + 1 = (ctB s).length := by
  rw [← ct_lib, Lib.splitB_all _ (by decide) 0 _ s rfl]
theorem ct_len_le (s : ByteArray) : (ctB s).length ≤ s.size + 1 := by
  rw [ct_length]
  have := List.count_le_length (a := (44 : UInt8)) (l := s.data.toList)
  have e : s.data.toList.length = s.size := rfl
  omega
theorem ct_mem_size (s : ByteArray) : ∀ p ∈ ctB s, p.size ≤ s.size := by
  intro p hp
  unfold ctB at hp
  obtain ⟨l, hl, rfl⟩ := List.mem_map.1 hp
  have := cut_mem_length 44 _ l hl
  have e : s.data.toList.length = s.size := rfl
  show l.toArray.size ≤ s.size
  rw [List.size_toArray]
  omega
end Go.Proofs.Ytaipgfahkpnooaa
