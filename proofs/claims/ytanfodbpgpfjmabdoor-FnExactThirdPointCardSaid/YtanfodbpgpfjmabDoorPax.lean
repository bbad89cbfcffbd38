/- ParametersOf: both exported functions. -/
import Derived.Test.YtanfodbpgpfjmabDoorPam
namespace Go.Proofs.YtanfodbpgpfjmabDoor
open Go.RowKit Go.Shelf
set_option linter.unusedVariables false
set_option linter.unusedSimpArgs false

theorem ends5 {fn : Func} (hfn : fn.results = #[.cell 2 66, .tmp 3]) (W : World) (q : Nat) (hk : W.heap[q]? = some (.cells #[.int .i64 0, .int .i64 0, .int .i64 0, .int .i64 0, .int .i64 0] 66 (0, 0))) (a b c d e : Int) (o : Value) (Φ : Ending → World → Prop)
    (hΦ : Φ (.returned (.tuple #[prm a b c d e, o])) (((((W.setCell ⟨q, 0, none⟩ (.int .i64 a)).setCell ⟨q, 1, none⟩ (.int .i64 b)).setCell ⟨q, 2, none⟩ (.int .i64 c)).setCell ⟨q, 3, none⟩ (.int .i64 d)).setCell ⟨q, 4, none⟩ (.int .i64 e))) (tmps : Array Value) (t2 : tmps.getD 2 undef = .pointer (some ⟨q, 0, none⟩)) (t3 : tmps.getD 3 undef = o) :
    bodyPost Tryd.prog fn Φ Exit.ret { tmps := tmps, defers := [] } (((((W.setCell ⟨q, 0, none⟩ (.int .i64 a)).setCell ⟨q, 1, none⟩ (.int .i64 b)).setCell ⟨q, 2, none⟩ (.int .i64 c)).setCell ⟨q, 3, none⟩ (.int .i64 d)).setCell ⟨q, 4, none⟩ (.int .i64 e)) := by
  obtain ⟨R9, -⟩ := five W q _ _ _ _ _ (.int .i64 a) (.int .i64 b) (.int .i64 c) (.int .i64 d) (.int .i64 e) _ hk
  obtain ⟨w9, hw9⟩ : ∃ w9, (((((W.setCell ⟨q, 0, none⟩ (.int .i64 a)).setCell ⟨q, 1, none⟩ (.int .i64 b)).setCell ⟨q, 2, none⟩ (.int .i64 c)).setCell ⟨q, 3, none⟩ (.int .i64 d)).setCell ⟨q, 4, none⟩ (.int .i64 e)) = w9 := ⟨_, rfl⟩
  rw [hw9] at R9 hΦ ⊢
  have hld := run_loadVar_row (P := Tryd.prog) _ _ 66 66 #[.int .i64 a, .int .i64 b, .int .i64 c, .int .i64 d, .int .i64 e] (0, 0) _ R9 Tryd.underlying66 rfl Tryd.infoPrm
  have t2' : tmps[2]?.getD undef = .pointer (some ⟨q, 0, none⟩) := by simpa using t2
  have t3' : tmps[3]?.getD undef = o := by simpa using t3
  refine bodyPost_ret (v := .tuple #[.agg #[.int .i64 a, .int .i64 b, .int .i64 c, .int .i64 d, .int .i64 e], o]) ?_ rfl hΦ
  rw [results_cell_tmp hfn]
  simp [asAddr, Result.andThen, t2', t3', hld]
theorem prm_form (n m : Nat) (Z P R : List Int) : ∃ a b c d e, parV n m Z P R = prm a b c d e := by
  unfold parV
  split <;> exact ⟨_, _, _, _, _, rfl⟩
/-- Whether a design is balanced. -/
noncomputable def dPar (n : Int) (xss : List (List Int)) : Bool := parO n.toNat xss.length (lens xss) (prA n.toNat (prF xss.length (memP xss)) n.toNat)
noncomputable def ParametersOf_0 (n : Int) (xss : List (List Int)) : Value := if desB n xss = true then parV n.toNat xss.length (lens xss) (prA n.toNat (prF xss.length (memP xss)) n.toNat) (repL n.toNat xss.length (memP xss)) else prm 0 0 0 0 0
noncomputable def ParametersOf_1 (n : Int) (xss : List (List Int)) : Int := if desB n xss = true then (if dPar n xss = true then 0 else 6) else 1
theorem form0 (n : Int) (xss : List (List Int)) : ∃ a b c d e, ParametersOf_0 n xss = prm a b c d e := by
  unfold ParametersOf_0
  split
  · exact prm_form _ _ _ _ _
  · exact ⟨_, _, _, _, _, rfl⟩
theorem parV_no {n m : Nat} {Z P R : List Int} (h : parO n m Z P = false) : parV n m Z P R = prm 0 0 0 0 0 := by unfold parV; rw [h]; rfl
/-- A store of five numbers over the zeros leaves what lies elsewhere. -/
theorem five_below (W : World) (q : Nat) (hk : W.heap[q]? = some (.cells #[.int .i64 0, .int .i64 0, .int .i64 0, .int .i64 0, .int .i64 0] 66 (0, 0))) (a b c d e : Int) (B : Nat) (w : World) (hB : B ≤ q) (hb : Below B w W) : Below B w (((((W.setCell ⟨q, 0, none⟩ (.int .i64 a)).setCell ⟨q, 1, none⟩ (.int .i64 b)).setCell ⟨q, 2, none⟩ (.int .i64 c)).setCell ⟨q, 3, none⟩ (.int .i64 d)).setCell ⟨q, 4, none⟩ (.int .i64 e)) := (five W q _ _ _ _ _ _ _ _ _ _ _ hk).2 B w hB hb

theorem sz_lens {n : Int} {m : Nat} {xss : List (List Int)} {S : Nat → Nat} (hm : xss.length = m) (hn : n ≤ 32) (hb : ∀ i, i < m → isBlk n (xss.getD i [])) (hS : ∀ i, i < m → ∀ k : Nat, (S i).testBit k = decide ((k : Int) ∈ xss.getD i [])) : szS m S = lens xss := by
  unfold szS lens
  rw [hm]
  refine stL_congr fun i hi => ?_
  rw [← cnt_fls, blk_fls hn (hb i hi).2 (hS i hi)]

end Go.Proofs.YtanfodbpgpfjmabDoor
