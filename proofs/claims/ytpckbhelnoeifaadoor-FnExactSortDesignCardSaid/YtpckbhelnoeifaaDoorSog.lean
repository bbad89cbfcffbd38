/- sort.Slice with a `less` that makes memory: a permutation, in order; nothing else turns. -/
import Derived.Test.YtpckbhelnoeifaaDoorSof
import Derived.Shelf.GgSortFunc.Slice
import Derived.Shelf.GgSortFunc.Small
import Derived.Shelf.GgSortFunc.Tiny
namespace Go.Proofs.YtpckbhelnoeifaaDoor
open Go.Shelf Go.RowKit Go.Lib Go.Sort
set_option linter.unusedVariables false
variable {P : Program} {ρ : Ren} {α : Type} [Inhabited α] {enc : α → Value} {lt : α → α → Bool} {g : Nat} {lb : Array Value} {blk off : Nat} {d : Array α} {w : World}

theorem so_slice (L : LaysGg.n6 P ρ) (t e : TypeId) (i ie : TypeInfo) (hi : P.info? t = some i) (hd : i.desc = .slice e) (hpk : P.packed t = false) (hie : P.info? e = some ie) (ke : Nat) (hke : ∀ w, (Extern.Rtype.kind e).run P w = .ok ke w)
    (hs1 : ie.size = 1) (hagg : ∀ w, (isAgg e).run P w = .ok false w) (h1 : ∀ x, (enc x).oneCell' = true) (hO : SWO lt) (eg : ∀ args w, (callFunc g args).run P w = .ok (.enter g args) w) (c : Nat) (hsz : d.size < 4611686018427387904)
    (f : Nat) (hf : P.funcs.findIdx? (·.name == "internal/reflectlite" ++ ".Swapper$" ++ toString (swapperK d.size ie ke)) = some f)
    (gS : Bool) (hx : 2 ≤ d.size → ∀ args W, (callFunc f args).run P W = ((Extern.ReflectliteSwapper.swap gS args).run P W).andThen fun v w' => .ok (.value v) w')
    (hless : LessOwn P g lb enc lt blk off d.size w) (hH : Holds enc w blk off d) (hblk : blk < w.heap.size) :
    Calls P (ρ.f 6) #[.iface t (.slice (some ⟨blk, off, none⟩) d.size c), .func (.func g) #[] lb] w fun e w' =>
      e = .returned (.tuple #[]) ∧ ∃ d', PermIn 0 d.size d d' ∧ SortedIn lt 0 d.size d' ∧ St enc w blk off d' w' := by
  by_cases h2 : 2 ≤ d.size
  · refine Any.sort_Slice_of_pdq L t e i ie hi hd hpk hie ke hke _ d.size c hsz f hf (.func g) #[] lb w _ ?_
    have hB : sliceBound P e ie ke (some ⟨blk, off, none⟩) d.size c = #[.slice (some ⟨blk, off, none⟩) d.size c, typeHandle P e] := by
      unfold sliceBound; rw [if_neg (swapperK_gt _ _ _ h2)]
    have hb : RowKit.Below w.heap.size w (sliceWorld P ρ t (some ⟨blk, off, none⟩) d.size c w) := by
      unfold sliceWorld
      exact ((RowKit.Below.refl _ _).alloc (Nat.le_refl _) _).alloc (by simp) _
    have T0 : St enc w blk off d (sliceWorld P ρ t (some ⟨blk, off, none⟩) d.size c w) := (St.start hH).below hb hblk
    rw [hB]
    generalize sliceWorld P ρ t (some ⟨blk, off, none⟩) d.size c w = w1 at hb T0
    have hlim : Lib.bitLen d.size < 4611686018427387904 := Nat.lt_of_le_of_lt (Lib.bitLen_le d.size 62 (by omega) (by omega)) (by omega)
    have E : En P enc lt g lb f #[.slice (some ⟨blk, off, none⟩) d.size c, typeHandle P e] blk off d.size d w1 :=
      ⟨eg, fun W d1 k1 e1 => hless W d1 (T0.then k1 e1) e1, swapSwaps_of_literal gS f (hx h2) e ie hie hs1 hagg enc h1 blk off d.size c, rfl, T0.holds hH rfl, Nat.lt_of_lt_of_le hblk hb.size, hsz⟩
    have hp := so_pdq (P := P) (ρ := ρ) { L with } hO (d.size + 1) 0 d.size (Lib.bitLen d.size) d w1 (by omega) E (Nat.zero_le _) (Nat.le_refl _) hlim (Or.inl rfl)
    refine hp.mono ?_
    rintro e w' ⟨rfl, T1⟩
    have h := pdq_sorts lt hO d 0 d.size (Lib.bitLen d.size) true true (Nat.zero_le _) (Nat.le_refl _) (Or.inl rfl)
    exact ⟨rfl, _, h.1, h.2, T0.then T1 h.1.1⟩
  · refine (Any.sort_Slice_tiny L t e i ie hi hd hpk hie ke hke _ d.size c (by omega) f hf (.func g) #[] lb w).mono ?_
    rintro e w' ⟨rfl, os, rfl⟩
    exact ⟨rfl, d, ⟨rfl, fun _ _ => rfl, List.Perm.refl _⟩, fun i j h0 hij hj => by omega, St.of_sortWorld hblk ⟨0, os, by unfold sortWorld; rw [ahead_zero, putRow_self enc w blk off d hH]⟩⟩
end Go.Proofs.YtpckbhelnoeifaaDoor
