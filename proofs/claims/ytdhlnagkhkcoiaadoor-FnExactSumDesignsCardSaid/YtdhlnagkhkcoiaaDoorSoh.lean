/- sort.Slice of blocks of sets by their texts. -/
import Derived.Test.YtdhlnagkhkcoiaaDoorSof
import Derived.Test.YtdhlnagkhkcoiaaDoorSol
import Derived.Test.YtdhlnagkhkcoiaaDoorStx
namespace Go.Proofs.YtdhlnagkhkcoiaaDoor
open Go.Shelf Go.RowKit Go.Lib Go.Sort
set_option linter.unusedVariables false

/-! ### The order of lists -/
theorem cmp_eq0 : ∀ xs ys : List Int, cmpL xs ys = 0 → xs = ys
  | [], [], _ => rfl
  | [], _ :: _, h => by cases h
  | _ :: _, [], h => by cases h
  | x :: xs, y :: ys, h => by
    rw [cmpL] at h
    by_cases a : x < y
    · rw [if_pos a] at h; cases h
    · rw [if_neg a] at h
      by_cases b : y < x
      · rw [if_pos b] at h; cases h
      · rw [if_neg b] at h
        rw [cmp_eq0 xs ys h, show x = y by omega]
theorem cmp_refl : ∀ xs : List Int, cmpL xs xs = 0
  | [] => rfl
  | x :: xs => by rw [cmpL, if_neg (by omega), if_neg (by omega)]; exact cmp_refl xs
/-- From both not greater: the first is not greater than the last, and less if one of both is. -/
theorem cmp_trans : ∀ xs ys zs : List Int, cmpL xs ys ≤ 0 → cmpL ys zs ≤ 0 → cmpL xs zs ≤ 0 ∧ (cmpL xs ys < 0 ∨ cmpL ys zs < 0 → cmpL xs zs < 0)
  | [], [], [], _, _ => ⟨Int.le_refl 0, fun h => by rcases h with h | h <;> cases h⟩
  | [], [], _ :: _, _, _ => ⟨show (-1 : Int) ≤ 0 by omega, fun _ => show (-1 : Int) < 0 by omega⟩
  | [], _ :: _, [], _, h => absurd (show (1 : Int) ≤ 0 from h) (by omega)
  | [], _ :: _, _ :: _, _, _ => ⟨show (-1 : Int) ≤ 0 by omega, fun _ => show (-1 : Int) < 0 by omega⟩
  | _ :: _, [], _, h, _ => absurd (show (1 : Int) ≤ 0 from h) (by omega)
  | _ :: _, _ :: _, [], _, h => absurd (show (1 : Int) ≤ 0 from h) (by omega)
  | x :: xs, y :: ys, z :: zs, h1, h2 => by
    have ih := cmp_trans xs ys zs
    have e1 : cmpL (x :: xs) (y :: ys) = if x < y then -1 else if y < x then 1 else cmpL xs ys := rfl
    have e2 : cmpL (y :: ys) (z :: zs) = if y < z then -1 else if z < y then 1 else cmpL ys zs := rfl
    have e3 : cmpL (x :: xs) (z :: zs) = if x < z then -1 else if z < x then 1 else cmpL xs zs := rfl
    rw [e1] at h1; rw [e2] at h2
    rw [e1, e2, e3]
    by_cases a : x < y
    · have : x < z := by
        by_cases b : y < z
        · omega
        · rw [if_neg b] at h2
          by_cases c : z < y
          · rw [if_pos c] at h2; exact absurd h2 (by decide)
          · omega
      rw [if_pos this]; exact ⟨by decide, fun _ => by decide⟩
    · rw [if_neg a] at h1
      by_cases a2 : y < x
      · rw [if_pos a2] at h1; exact absurd h1 (by decide)
      · rw [if_neg a2] at h1
        obtain rfl : x = y := by omega
        rw [if_neg a, if_neg a2]
        by_cases b : x < z
        · rw [if_pos b]; exact ⟨by decide, fun _ => by decide⟩
        · rw [if_neg b] at h2 ⊢
          by_cases c : z < x
          · rw [if_pos c] at h2; exact absurd h2 (by decide)
          · rw [if_neg c] at h2 ⊢
            rw [if_neg b, if_neg c]
            exact ih h1 h2

/-! ### The sets as a list -/
def encU (x : UInt32) : Value := .int .u32 (x.toNat : Nat)
/-- The points of a set. -/
def ptsN (x : Nat) : List Int := fls 32 (fun k => x.testBit k)
def ltU (x y : UInt32) : Bool := Op.bytesLess (textOf x.toNat) (textOf y.toNat)
theorem ltU_cmp (x y : UInt32) : ltU x y = decide (cmpL (ptsN x.toNat) (ptsN y.toNat) = -1) := text_less _ _
theorem swoU : SWO ltU where
  irrefl x := by rw [ltU_cmp, cmp_refl]; rfl
  trans x y z h1 h2 := by
    rw [ltU_cmp] at h1 h2 ⊢
    have a := of_decide_eq_true h1
    have b := of_decide_eq_true h2
    have c := (cmp_trans (ptsN x.toNat) (ptsN y.toNat) (ptsN z.toNat) (by omega) (by omega)).2 (.inl (by omega))
    apply decide_eq_true
    rcases cmp_three (ptsN x.toNat) (ptsN z.toNat) with h | h | h <;> omega
  ntrans x y z h1 h2 := by
    rw [ltU_cmp] at h1 h2 ⊢
    have a := of_decide_eq_false h1
    have b := of_decide_eq_false h2
    have a' := cmp_anti (ptsN y.toNat) (ptsN x.toNat)
    have b' := cmp_anti (ptsN z.toNat) (ptsN y.toNat)
    have c' := cmp_anti (ptsN z.toNat) (ptsN x.toNat)
    have t := (cmp_trans (ptsN z.toNat) (ptsN y.toNat) (ptsN x.toNat) (by rcases cmp_three (ptsN y.toNat) (ptsN z.toNat) with h | h | h <;> omega) (by rcases cmp_three (ptsN x.toNat) (ptsN y.toNat) with h | h | h <;> omega)).1
    apply decide_eq_false
    omega

/-- The array of n sets. -/
def arU (m : Nat) (S : Nat → Nat) : Array UInt32 := ((List.range m).map (fun i => UInt32.ofNat (S i))).toArray
theorem arU_size (m : Nat) (S : Nat → Nat) : (arU m S).size = m := by simp [arU]
theorem arU_get (m : Nat) (S : Nat → Nat) (i : Nat) (hi : i < m) : (arU m S)[i]! = UInt32.ofNat (S i) := by
  rw [getElem!_pos _ i (by rw [arU_size]; exact hi)]; simp [arU]
theorem uar_of (m : Nat) (S : Nat → Nat) (d : Array UInt32) (hd : d.size = m) : putCells encU 0 d (uar m S) = uar m (fun i => (d[i]!).toNat) := by
  apply Array.ext_getElem?
  intro j
  simp only [putCells, Array.getElem?_mapIdx]
  by_cases hj : j < m
  · rw [uar_get m S j hj, uar_get m _ j hj]
    simp only [Option.map_some]
    rw [if_pos ⟨Nat.zero_le _, by omega⟩, Nat.sub_zero]; rfl
  · rw [Array.getElem?_eq_none (by rw [uar_size]; omega), Array.getElem?_eq_none (by rw [uar_size]; omega)]; rfl
theorem Uc.holds {w : World} {g m : Nat} {S : Nat → Nat} (h : Uc w g m S) (hS : ∀ i, i < m → S i < 4294967296) : Holds encU w g 0 (arU m S) := fun j hj => by
  rw [arU_size] at hj
  refine ⟨?_, by rw [Nat.zero_add]; exact h.frozen j⟩
  rw [Nat.zero_add, h.cell j hj, arU_get m S j hj]
  unfold encU
  rw [UInt32.toNat_ofNat', Nat.mod_eq_of_lt (hS j hj)]
theorem St.uc {w W : World} {g m : Nat} {S : Nat → Nat} {d : Array UInt32} (h : Uc w g m S) (hs : St encU w g 0 d W) (hd : d.size = m) : Uc W g m (fun i => (d[i]!).toNat) := by
  obtain ⟨cs, T, h, hc⟩ := h
  refine ⟨putCells encU 0 d cs, T, ?_, fun i hi => ?_⟩
  · rw [hs.row]
    unfold putRow
    rw [heap_mapBlock, h]; rfl
  · simp only [putCells, Array.getElem?_mapIdx]
    rw [hc i hi]
    simp only [Option.map_some]
    rw [if_pos ⟨Nat.zero_le _, by omega⟩, Nat.sub_zero]; rfl
theorem Off.low {g : Nat} {w W : World} (h : Off g w W) (hg : 0 < g) (hp : 0 < w.heap.size) : RowKit.Below 1 w W := ⟨h.os, h.tape, h.output, h.size, fun k hk => h.block k (by omega) (by omega)⟩

noncomputable def psT : TypeInfo := (Tryd.prog.info? 51).get (by kernel_rfl)
noncomputable def psE : TypeInfo := (Tryd.prog.info? 81).get (by kernel_rfl)
theorem psK (n : Nat) : swapperK n psE 10 = if n = 0 then 1 else if n = 1 then 2 else 6 := by
  have a : psE.hasPointers = false := by kernel_rfl
  have b : psE.bytes = 4 := by kernel_rfl
  unfold swapperK
  rw [a, b]
  by_cases h0 : n = 0
  · subst h0; rfl
  · by_cases h1 : n = 1
    · subst h1; rfl
    · have c : (n == 0) = false := by simpa using h0
      have d : (n == 1) = false := by simpa using h1
      simp [c, d, h0, h1]

theorem isort (b g m cp : Nat) (S : Nat → Nat) (hm : m ≤ 128) (w : World) (hb : w.cell? ⟨b, 0, none⟩ = some (.slice (some ⟨g, 0, none⟩) m cp)) (hne : b ≠ g) (hg : 0 < g) (hU : Uc w g m S) (hS : ∀ i, i < m → S i < 4294967296) (ht : Tab w) :
    Calls Tryd.prog 71 #[.iface 51 (.slice (some ⟨g, 0, none⟩) m cp), .func (.func 84) #[] #[.pointer (some ⟨b, 0, none⟩)]] w fun e w' => e = .returned (.tuple #[]) ∧ Off g w w' ∧
      ∃ S' : Nat → Nat, Uc w' g m S' ∧ (∀ i, i < m → S' i < 4294967296) ∧ ((List.range m).map S').Perm ((List.range m).map S) ∧ ∀ i j, i < j → j < m → cmpL (ptsN (S' i)) (ptsN (S' j)) ≤ 0 := by
  have lb := World.block_lt_of_cell? w _ hb
  have eg : ∀ args W, (callFunc 84 args).run Tryd.prog W = .ok (.enter 84 args) W := enters_of Tryd.func84 (by kernel_rfl) rfl
  have hless : LessOwn Tryd.prog 84 #[.pointer (some ⟨b, 0, none⟩)] encU ltU g 0 (arU m S).size w := by
    intro W d h hd i j hi hj
    rw [arU_size] at hd hi hj
    exact iless b g m cp (fun i => (d[i]!).toNat) hm i j hi hj W (by rw [h.ap.cell (p := ⟨b, 0, none⟩) lb hne]; exact hb) (h.uc hU hd) (fun i _ => UInt32.toNat_lt _) (ht.below (h.ap.low hg ht.pos) (by omega))
  have key : ∀ f, Tryd.prog.funcs.findIdx? (·.name == "internal/reflectlite" ++ ".Swapper$" ++ toString (swapperK (arU m S).size psE 10)) = some f → (2 ≤ (arU m S).size → ∀ args W, (callFunc f args).run Tryd.prog W = ((Extern.ReflectliteSwapper.swap true args).run Tryd.prog W).andThen fun v w' => .ok (.value v) w') →
      Calls Tryd.prog 71 #[.iface 51 (.slice (some ⟨g, 0, none⟩) (arU m S).size cp), .func (.func 84) #[] #[.pointer (some ⟨b, 0, none⟩)]] w fun e w' => e = .returned (.tuple #[]) ∧ ∃ d', PermIn 0 (arU m S).size (arU m S) d' ∧ SortedIn ltU 0 (arU m S).size d' ∧ St encU w g 0 d' w' := fun f hf hx =>
    so_slice (P := Tryd.prog) Tryd.laysGg6 51 81 psT psE (by kernel_rfl) (by kernel_rfl) (by kernel_rfl) (by kernel_rfl) 10 (fun _ => by kernel_rfl) (by kernel_rfl) (fun _ => by kernel_rfl) (fun _ => rfl) swoU eg cp (by rw [arU_size]; omega) f hf true hx hless (hU.holds hS) hU.lt
  have K : Calls Tryd.prog 71 #[.iface 51 (.slice (some ⟨g, 0, none⟩) (arU m S).size cp), .func (.func 84) #[] #[.pointer (some ⟨b, 0, none⟩)]] w fun e w' => e = .returned (.tuple #[]) ∧ ∃ d', PermIn 0 (arU m S).size (arU m S) d' ∧ SortedIn ltU 0 (arU m S).size d' ∧ St encU w g 0 d' w' := by
    by_cases h0 : m = 0
    · exact key 96 (by rw [psK, arU_size, if_pos h0]; kernel_rfl) (fun h => by rw [arU_size] at h; omega)
    · by_cases h1 : m = 1
      · exact key 97 (by rw [psK, arU_size, if_neg h0, if_pos h1]; kernel_rfl) (fun h => by rw [arU_size] at h; omega)
      · exact key 101 (by rw [psK, arU_size, if_neg h0, if_neg h1]; kernel_rfl) (fun _ args W => run_callFunc_extern Tryd.func101 (by kernel_rfl) (by kernel_rfl) (by kernel_rfl) (e := Extern.ReflectliteSwapper.swap true) (by kernel_rfl) args W)
  rw [arU_size] at K
  refine K.mono ?_
  rintro e w' ⟨rfl, d', hp, hs, hst⟩
  have hd : d'.size = m := hp.1.trans (arU_size m S)
  refine ⟨rfl, hst.ap, fun i => (d'[i]!).toNat, hst.uc hU hd, fun i _ => UInt32.toNat_lt _, ?_, fun i j hij hj => ?_⟩
  · have q := hp.2.2
    rw [show d'.extract 0 m = d' by rw [← hd]; exact Array.extract_size, show (arU m S).extract 0 m = arU m S by
      have := @Array.extract_size _ (arU m S); rwa [arU_size] at this] at q
    have q2 := q.map UInt32.toNat
    have e1 : d'.toList.map UInt32.toNat = (List.range m).map (fun i => (d'[i]!).toNat) := by
      apply List.ext_getElem (by simp [hd])
      intro i h1 h2
      simp at h1 h2 ⊢
      rw [getElem!_pos d' i (by omega)]
    have e2 : (arU m S).toList.map UInt32.toNat = (List.range m).map S := by
      unfold arU
      rw [List.map_map]
      apply List.map_congr_left
      intro i hi
      show (UInt32.ofNat (S i)).toNat = S i
      rw [UInt32.toNat_ofNat', Nat.mod_eq_of_lt (hS i (List.mem_range.1 hi))]
    rw [e1, e2] at q2
    exact q2
  · have := hs i j (Nat.zero_le _) hij hj
    rw [ltU_cmp] at this
    have := of_decide_eq_false this
    have a := cmp_anti (ptsN (d'[j]!).toNat) (ptsN (d'[i]!).toNat)
    show cmpL (ptsN (d'[i]!).toNat) (ptsN (d'[j]!).toNat) ≤ 0
    rcases cmp_three (ptsN (d'[j]!).toNat) (ptsN (d'[i]!).toNat) with h | h | h <;> omega
end Go.Proofs.YtdhlnagkhkcoiaaDoor
