/- Comparing a polynomial with zero. -/
import Derived.Test.YtmlcdbjibngnkaaFq
import Derived.Laws.StructEq
namespace Go.Proofs.Ytmlcdbjibngnkaa
open Go.RowKit
set_option linter.unusedVariables false

theorem arr_lit (c : Co) : arr 12 c = #[.int .i64 (c 0), .int .i64 (c 1), .int .i64 (c 2), .int .i64 (c 3), .int .i64 (c 4), .int .i64 (c 5), .int .i64 (c 6), .int .i64 (c 7), .int .i64 (c 8), .int .i64 (c 9), .int .i64 (c 10), .int .i64 (c 11)] := rfl
theorem Try.part2 (xs : Array Value) (i : Nat) (v : Value) (w : World) (h : xs[i]? = some v) : (part 2 xs i).run Try.prog w = .ok v w := by
  have ha : (isAgg 2).run Try.prog w = .ok false w := by
    unfold isAgg
    rw [Sem.run_bind, run_underlying Try.underlying2 w]
    rfl
  simp [part, Sem.run_bind, ha, h]
theorem Try.size2 (w : World) : (sizeOf 2).run Try.prog w = .ok 1 w := by
  have hi := Try.infoInt
  cases hq : Try.prog.info? 2 with
  | none => simp [hq] at hi
  | some i =>
    have hs : i.size = 1 := by simp [hq] at hi; exact hi.2.1
    simp [sizeOf, typeInfo, hq, hs]
theorem Try.eqLoop (d : Nat) (c : Co) : ∀ (l : List Nat) (w : World), (∀ i ∈ l, i < 12) →
    (forIn (m := Sem) l ((none : Option Bool), ()) fun i __s => do
      let __do_lift ← part 2 (arr 12 c) (i * 1)
      let __do_lift_1 ← part 2 (arr 12 (fun _ => 0)) (i * 1)
      let __do_lift ← Op.equalIn (d + 1) 2 __do_lift __do_lift_1
      if (!__do_lift) = true then pure (ForInStep.done (some false, ())) else pure (ForInStep.yield (none, ()))).run Try.prog w = .ok (if l.all (fun i => c i == 0) then (none, ()) else (some false, ())) w
  | [], w, _ => by simp
  | i :: l, w, h => by
    have hi := h i (by simp)
    have h1 := Try.part2 (arr 12 c) i _ w (arr_get 12 c i hi)
    have h2 := Try.part2 (arr 12 (fun _ => 0)) i _ w (arr_get 12 (fun _ => 0) i hi)
    have he := run_equalIn_int (P := Try.prog) w d 2 .i64 .i64 (c i) 0 Try.underlying2
    have ih := Try.eqLoop d c l w (fun j hj => h j (by simp [hj]))
    simp only [Nat.mul_one] at ih
    simp only [List.forIn_cons, Sem.run_bind, Nat.mul_one, h1, h2, he, Result.andThen_ok]
    cases hb : (c i == 0)
    · simp [hb]
    · simp only [Bool.not_true, Bool.false_eq_true, if_false, Sem.run_pure, Result.andThen_ok, List.all_cons, hb, Bool.true_and]
      exact ih
theorem Try.eqPoly (c : Co) (w : World) : (Op.equal 55 (.agg (arr 12 c)) (.agg #[.int .i64 0, .int .i64 0, .int .i64 0, .int .i64 0, .int .i64 0, .int .i64 0, .int .i64 0, .int .i64 0, .int .i64 0, .int .i64 0, .int .i64 0, .int .i64 0])).run Try.prog w = .ok ((List.range 12).all fun i => c i == 0) w := by
  have hu := run_underlying (P := Try.prog) (t := 55) Try.underlying55
  show (Op.equalIn (9998 + 1 + 1) 55 (.agg (arr 12 c)) (.agg (arr 12 (fun _ => 0)))).run Try.prog w = _
  generalize 9998 = d
  rw [Op.equalIn]
  simp only [Sem.run_bind, hu, Result.andThen_ok, Try.size2, Nat.mul_one, Std.Legacy.Range.forIn_eq_forIn_range']
  have := Try.eqLoop d c (List.range' 0 12) w (fun i hi => by simp [List.mem_range'_1] at hi; exact hi)
  simp only [Nat.mul_one] at this
  rw [show (List.range' 0 ([:12] : Std.Legacy.Range).size 1) = List.range' 0 12 from rfl, this, List.range_eq_range']
  cases (List.range' 0 12).all fun i => c i == 0 <;> simp
end Go.Proofs.Ytmlcdbjibngnkaa
