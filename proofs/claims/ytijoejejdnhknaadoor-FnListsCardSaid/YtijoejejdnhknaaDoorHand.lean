/- The frame of a row whose walk asks for the shape of the world beside what is laid. -/
import Derived.Test.YtijoejejdnhknaaDoorRows
import Derived.HandedShaped
import Derived.Handed
import Derived.ProofKit
namespace Go.Proofs.YtijoejejdnhknaaDoor
set_option linter.unusedVariables false

theorem handed_shape {H : Type} {enc : TypeId × Value → H} {a : Assume} {C : Checked} {os : Os} {f : FuncId} {fn : Func} {s : ChangeSpec} {conds : List PathCond} {apart fresh handsOn again : Bool} {X : World → Array Value → Prop}
    (keeps : ∀ (u v : World) (z : Array Value), u.heap = v.heap → X u z → X v z)
    (o : ownKnob C.prog.godebug = none) (st : os.Started) (ni : C.prog.inits.idxOf? f = none) (here : C.prog.funcs[f]? = some fn)
    (start : ∃ (w : World) (tape : Tape) (i : Input), w.os = os ∧ (w.forCall tape i).Shaped C.prog ∧ i.vars = [] ∧ Input.okWide C.prog (w.forCall tape i) .any w.heap.size f i ∧
      ((s.pre enc C.prog fn conds apart (w.forCall tape i).memory i.args ∧ X (w.forCall tape i).memory i.args) ∧ sizedMet enc C.prog fn (OpenSpec.ofChange s) apart (w.forCall tape i).memory i.args) ∧ a.holds C.prog (lone (Frame.enter C.prog f i.args .normal) [] (w.forCall tape i)))
    (walk : ∀ (W : World) (base : Nat) (args : Array Value) (ds gs : List (DataW H)) (before : List MemPlace),
      (∀ (j : Nat) t v, fn.params[j]? = some t → args[j]? = some v → Value.okWide C.prog W .any base t v) →
      DataW.Whole enc C.prog fn.params.toList s.vars apart W args.toList ds gs before → X W args → W.ShapedOpen C.prog →
      Calls C.prog f args W fun e W' => ∃ v, e = .returned v ∧ s.post enc C.prog fn apart fresh handsOn again W args v W') :
    ReturnsInHanded a C os f .any (fun w args => (s.pre enc C.prog fn conds apart w args ∧ X w args) ∧ sizedMet enc C.prog fn (OpenSpec.ofChange s) apart w args) (s.post enc C.prog fn apart fresh handsOn again) := by
  refine returnsInHanded_of_calls o st ni start fun w tape i _ shape _ fine met _ => ?_
  obtain ⟨_, _, _, g, hg, _, _, _, _, vals⟩ := fine
  obtain rfl : g = fn := Option.some.inj (hg.symm.trans here)
  obtain ⟨⟨⟨ds, gs, before, whole, _⟩, x⟩, _⟩ := met
  refine Calls.mono (walk _ _ i.args ds gs before vals (DataW.Whole.of_heap (w' := w.forCall tape i) (by rfl) whole) (keeps _ _ _ (by rfl) x) shape) fun e W' h => ?_
  obtain ⟨v, rfl, p⟩ := h
  exact ChangeSpec.post_blind p
end Go.Proofs.YtijoejejdnhknaaDoor
