/- A range over the program's cycles: one law for every body. -/
import Derived.Test.YtcgmencdadinbaaIcy
namespace Go.Proofs.Ytcgmencdadinbaa
open Go.RowKit Go.Shelf
set_option linter.unusedVariables false

theorem below_putObj {B : Nat} (W : World) (l : Nat) (o : Obj) (h : B ≤ l) : Below B W (W.putObj l o) :=
  ⟨rfl, rfl, rfl, by simp [World.putObj], fun k hk => World.putObj_heap_other (by omega)⟩
/-- What a round's body owes. -/
def cycPost (n₀ n₁ : Nat) (I : List (Value × List Int) → (Nat → Prop) → World → Prop) (pre : List (Value × List Int)) (Ow : Nat → Prop) (W : World) : Exit → Act → World → Prop
  | .normal, _, W3 => ∃ Ow' : Nat → Prop, (∀ k, Ow' k → Ow k ∨ W.heap.size ≤ k) ∧ (∀ k, Ow' k → k < W3.heap.size) ∧ I pre Ow' W3 ∧ Below n₁ W W3 ∧ ∀ k, n₀ ≤ k → k < W.heap.size → ¬ Ow k → W3.heap[k]? = W.heap[k]?
  | _, _, _ => False

set_option maxHeartbeats 4000000 in
theorem range_cycles {n : Nat} {g : Operand} {t : Tmp} {assign body : Code} {Q : Exit → Act → World → Prop} {a : Act} {w : World} (w₀ : World) (n₁ : Nat) (v : Value) (ps : List Int)
    (hg : a.eval g = .func (.func 65) #[v] #[]) (h01 : n₁ ≤ w.heap.size) (hb0 : Below n₁ w₀ w) (HV0 : ∀ W, Below n₁ w₀ W → IntsC W v ps) (hp : pmB ps = true)
    (I : List (Value × List Int) → (Nat → Prop) → World → Prop)
    (hI : ∀ pre Ow W W', I pre Ow W → Below w.heap.size W W' → (∀ k, Ow k → W'.heap[k]? = W.heap[k]?) → I pre Ow W')
    (h0 : I [] (fun _ => False) w) (a₁ : Value → Act)
    (hassign : ∀ (l : Nat) (x : Value) (W : World) (K : Act → World → Prop), K (a₁ x) W → assign.wpIn (Fence.wide.inRound l) (n - 1 - 1) Try.prog (Exit.then K (fun _ _ _ => False)) { tmps := (#[t].zip #[x]).foldl (fun t (p, v) => t.setIfInBounds p v) a.tmps, defers := [] } W)
    (hbody : ∀ (l : Nat) (pre : List (Value × List Int)) (Ow : Nat → Prop) (x : Value × List Int) (W : World), I pre Ow W → (pre ++ [x]).map Prod.snd <+: cyclesL ps → x.2.length ≤ ps.length → Below n₁ w₀ W → w.heap.size ≤ W.heap.size → IntsL W w.heap.size W.heap.size x.1 x.2 →
      (∀ k, x.1.ownBlock = some k → ¬ Ow k) → (∀ k, Ow k → k < W.heap.size) → body.wpIn (Fence.wide.inRound l) (n - 1 - 1) Try.prog (cycPost w.heap.size n₁ I (pre ++ [x]) Ow W) (a₁ x.1) W)
    (hdone : ∀ (D : Nat) (pre : List (Value × List Int)) (Ow : Nat → Prop) (W : World), D = w.heap.size → pre.map Prod.snd = cyclesL ps → I pre Ow W → Below n₁ w₀ W → Cycs w.heap.size W Ow pre → W.heap[D]? = some (.deferred (some [])) → Q .normal { a with defers := { target := .collected D, args := #[] } :: a.defers } W) :
    (Code.rangeFunc g #[t] assign body).wpIn Fence.wide n Try.prog Q a w := by
  refine wpIn_rangeFunc ?_
  intro fn hfn
  obtain ⟨rec, hrec⟩ : ∃ rec : LoopState → Option Code → Loop, rec = fun st pe => { state := st, pending := pe, fn, tmps := a.tmps, params := #[t], assign, body, defers := w.heap.size } := ⟨_, rfl⟩
  obtain ⟨W1, hW1⟩ : ∃ W1, (w.alloc (.deferred (some []))).alloc (.loop (rec .ready none)) = W1 := ⟨_, rfl⟩
  obtain ⟨D, hD⟩ : ∃ D, w.heap.size = D := ⟨_, rfl⟩
  have hL1 : W1.heap[D + 1]? = some (.loop (rec .ready none)) := by
    rw [← hW1, ← hD]; have := World.alloc_heap_new (w.alloc (.deferred (some []))) (.loop (rec .ready none)); rwa [World.size_alloc] at this
  have hK1 : W1.heap[D]? = some (.deferred (some [])) := by
    rw [← hW1, ← hD]; exact (Below.heap_alloc _ _ _ (by simp)).trans (World.alloc_heap_new w _)
  have b1 : Below w.heap.size w W1 := by
    rw [← hW1]; exact ((Below.refl _ w).alloc (Nat.le_refl _) _).alloc (by simp) _
  have z1 : W1.heap.size = D + 2 := by rw [← hW1]; simp [hD]
  have hI1 : I [] (fun _ => False) W1 := hI _ _ _ _ h0 b1 (fun k h => h.elim)
  refine ⟨w.heap.size + 1, [{ target := .collected w.heap.size, args := #[] }], W1, { target := .fn (.func 65) #[], args := #[v, .func (.yield (w.heap.size + 1)) #[] #[]] }, W1, 65,
    #[v, .func (.yield (w.heap.size + 1)) #[] #[]], W1, ?_, ?_, ?_, ?_, fun h => (by cases h), ?_⟩
  · rw [← hW1, hrec]; exact run_enterLoop_outer _ _ _ _ _
  · simp only [resolve, hg]
    simp [go_sem]
  · intro f' hf'; exact trivial
  · simp [invoke, go_sem]
  · refine (icycles w₀ v ps (n - 1) (w.heap.size + 1) w.heap.size n₁ h01 HV0 hp
      (fun pre Own W => ∃ Ow : Nat → Prop, I pre Ow W ∧ (∀ k, Own k ↔ (Ow k ∨ k = D ∨ k = D + 1)) ∧ ¬ Ow D ∧ ¬ Ow (D + 1) ∧ W.heap[D + 1]? = some (.loop (rec .ready none)) ∧ W.heap[D]? = some (.deferred (some [])))
      ?_ ?_ W1 (fun k => k = D ∨ k = D + 1) (hb0.trans (b1.mono (by omega))) b1.size (fun k hk => by omega) ⟨fun _ => False, hI1, fun k => by simp, fun h => h, fun h => h, hL1, hK1⟩).mono ?_
    · rintro pre Own W W' ⟨Ow, hi, ho, n1, n2, hl, hk⟩ hb hs
      exact ⟨Ow, hI _ _ _ _ hi hb (fun k hk => hs k ((ho k).2 (.inl hk))), ho, n1, n2, (hs _ ((ho _).2 (.inr (.inr rfl)))).trans hl, (hs _ ((ho _).2 (.inr (.inl rfl)))).trans hk⟩
    · rintro pre Own x W ⟨Ow, hi, ho, n1, n2, hl, hk⟩ pf xl hbw ix fr ol
      have hlt : D + 1 < W.heap.size := (Array.getElem?_eq_some_iff.1 hl).1
      have hy := run_yield (P := Try.prog) (args := #[x.1]) hl (by rw [hrec]; rfl)
      rw [hrec] at hy
      simp only [hD]
      refine ⟨fn, _, assign, body, hy, roundIn_of_wpIn hfn (hassign _ x.1 W _ ?_)⟩
      clear hy
      refine ⟨_, run_beginRound hl (by rw [hrec]), ?_⟩
      obtain ⟨W2, hW2⟩ : ∃ W2, W.putObj (D + 1) (.loop { rec .ready none with state := .busy }) = W2 := ⟨_, rfl⟩
      have b2 : Below (D + 1) W W2 := by rw [← hW2]; exact below_putObj _ _ _ (Nat.le_refl _)
      have s2 : W2.heap.size = W.heap.size := by rw [← hW2]; simp [World.putObj]
      have oth : ∀ k, k ≠ D + 1 → W2.heap[k]? = W.heap[k]? := fun k hk => by rw [← hW2]; exact World.putObj_heap_other hk
      have hl2 : W2.heap[D + 1]? = some (.loop { rec .ready none with state := .busy }) := by rw [← hW2]; exact World.putObj_heap_same hlt
      rw [hW2]
      have i2 : I pre Ow W2 := hI _ _ _ _ hi (b2.mono (by omega)) (fun k hk => oth k (fun e => n2 (e ▸ hk)))
      have xb : ∀ k, x.1.ownBlock = some k → W2.heap[k]? = W.heap[k]? := fun k e => oth k (fun e2 => fr k e ((ho k).2 (.inr (.inr e2))))
      have ix2 : IntsL W2 w.heap.size W2.heap.size x.1 x.2 := ⟨ownsRow_of_block ix.1 xb, fun k e => by rw [s2]; exact ix.2.1 k e, Nat.le_refl _⟩
      refine wpIn_mono (hbody _ pre Ow x W2 i2 pf xl (hbw.trans (b2.mono (by omega))) (by omega) ix2 (fun k e h => fr k e ((ho k).2 (.inl h))) (fun k h => by rw [s2]; exact ol k ((ho k).2 (.inl h)))) ?_
      rintro e a3 W3 hp3
      cases e with
      | normal =>
        obtain ⟨Ow', q1, q2, i3, b3, k3⟩ := hp3
        have hl3 : W3.heap[D + 1]? = some (.loop { rec .ready none with state := .busy }) := (k3 (D + 1) (by omega) (by omega) n2).trans hl2
        have hk3 : W3.heap[D]? = some (.deferred (some [])) := ((k3 D (by omega) (by omega) n1).trans (oth D (by omega))).trans hk
        have hlt3 : D + 1 < W3.heap.size := (Array.getElem?_eq_some_iff.1 hl3).1
        have hr := run_endRound (P := Try.prog) none hl3
        obtain ⟨W4, hW4⟩ : ∃ W4, W3.putObj (D + 1) (.loop (rec .ready none)) = W4 := ⟨_, rfl⟩
        have hrr : (Instr.endRound (D + 1) none).run Try.prog W3 = .ok (.bool true) W4 := by rw [← hW4]; rw [hrec] at hr ⊢; exact hr
        have b4 : Below (D + 1) W3 W4 := by rw [← hW4]; exact below_putObj _ _ _ (Nat.le_refl _)
        have s4 : W4.heap.size = W3.heap.size := by rw [← hW4]; simp [World.putObj]
        have oth4 : ∀ k, k ≠ D + 1 → W4.heap[k]? = W3.heap[k]? := fun k hk => by rw [← hW4]; exact World.putObj_heap_other hk
        have n1' : ¬ Ow' D := fun h => by rcases q1 D h with h | h
                                          · exact n1 h
                                          · omega
        have n2' : ¬ Ow' (D + 1) := fun h => by rcases q1 _ h with h | h
                                                · exact n2 h
                                                · omega
        refine ⟨_, _, hrr, rfl, fun k => Ow' k ∨ k = D ∨ k = D + 1, fun k h => ?_, fun k h => ?_, ⟨Ow', hI _ _ _ _ i3 (b4.mono (by omega)) (fun k hk => oth4 k (fun e => n2' (e ▸ hk))), fun k => Iff.rfl, n1', n2', by rw [← hW4]; exact World.putObj_heap_same hlt3, (oth4 D (by omega)).trans hk3⟩, ?_, ?_⟩
        · rcases h with h | h | h
          · rcases q1 k h with h | h
            · exact .inl ((ho k).2 (.inl h))
            · exact .inr (by omega)
          · exact .inl ((ho k).2 (.inr (.inl h)))
          · exact .inl ((ho k).2 (.inr (.inr h)))
        · rcases h with h | h | h
          · rw [s4]; exact q2 k h
          · omega
          · omega
        · exact ((b2.mono (by omega)).trans b3).trans (b4.mono (by omega))
        · intro k kn kl ko
          have kd : k ≠ D + 1 := fun e => ko ((ho k).2 (.inr (.inr e)))
          rw [oth4 k kd, k3 k (by omega) (by omega) (fun h => ko ((ho k).2 (.inl h))), oth k kd]
      | ret => exact hp3.elim
      | exit id => exact hp3.elim
      | goto t => exact hp3.elim
      | panic ch => exact hp3.elim
      | outgrown => exact hp3.elim
    · rintro e W2 ⟨⟨r, rfl⟩, pre, Own, hm, ⟨Ow, hi, ho, n1, n2, hl, hk⟩, hb, hc⟩
      simp only [hD]
      refine ⟨none, _, by have := run_endLoop (P := Try.prog) hl (by rw [hrec]; simp); rw [hrec] at this; exact this, ?_⟩
      obtain ⟨W4, hW4⟩ : ∃ W4, W2.putObj (D + 1) (.loop { rec .ready none with state := .exhausted }) = W4 := ⟨_, rfl⟩
      have b4 : Below (D + 1) W2 W4 := by rw [← hW4]; exact below_putObj _ _ _ (Nat.le_refl _)
      have s4 : W4.heap.size = W2.heap.size := by rw [← hW4]; simp [World.putObj]
      have oth4 : ∀ k, k ≠ D + 1 → W4.heap[k]? = W2.heap[k]? := fun k hk => by rw [← hW4]; exact World.putObj_heap_other hk
      rw [hrec] at hW4
      simp only at hW4
      show Q .normal { a with defers := { target := .collected D, args := #[] } :: a.defers } _
      rw [hW4]
      exact hdone D pre Ow W4 hD.symm hm (hI _ _ _ _ hi (b4.mono (by omega)) (fun k hk => oth4 k (fun e => n2 (e ▸ hk)))) (hb.trans (b4.mono (by omega)))
        (hc.keep (by omega) (fun x hx k e => oth4 k (fun e2 => hc.free x hx k e ((ho k).2 (.inr (.inr e2))))) (fun k _ hk h => hk ((ho k).2 (.inl h)))) ((oth4 D (by omega)).trans hk)
end Go.Proofs.Ytcgmencdadinbaa
