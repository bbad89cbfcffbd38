/- Steiner triple systems: what the parameters say. -/
import Derived.Test.YtanfodbpgpfjmabDoorSzs
import Derived.Maps.OwnOps
import Derived.Maps.Views
import Derived.WideKeyPair
import Derived.DeepKeys4
namespace Go.Proofs.YtanfodbpgpfjmabDoor
open Go.RowKit Go.Shelf
set_option linter.unusedVariables false
set_option linter.unusedSimpArgs false

theorem cnt_none {P : Nat → Bool} : ∀ {m : Nat}, cnt m P = 0 → ∀ i, i < m → P i = false
  | 0, _, i, hi => by omega
  | m + 1, h, i, hi => by
    have e : cnt (m + 1) P = cnt m P + if P m then 1 else 0 := rfl
    rw [e] at h
    cases hp : P m with
    | true => rw [hp] at h; simp at h
    | false =>
      rw [hp] at h
      by_cases c : i = m
      · rw [c]; exact hp
      · exact cnt_none (m := m) (by simpa using h) i (by omega)
theorem cnt_one {P : Nat → Bool} : ∀ {m : Nat}, cnt m P = 1 → ∃ i, i < m ∧ P i = true ∧ ∀ j, j < m → P j = true → j = i
  | 0, h => by cases h
  | m + 1, h => by
    have e : cnt (m + 1) P = cnt m P + if P m then 1 else 0 := rfl
    rw [e] at h
    cases hp : P m with
    | true =>
      rw [hp] at h
      have h0 := cnt_none (P := P) (m := m) (by simpa using h)
      refine ⟨m, by omega, hp, fun j hj hq => ?_⟩
      by_cases c : j = m
      · exact c
      · rw [h0 j (by omega)] at hq; cases hq
    | false =>
      rw [hp] at h
      obtain ⟨i, hi, h1, h2⟩ := cnt_one (P := P) (m := m) (by simpa using h)
      refine ⟨i, by omega, h1, fun j hj hq => ?_⟩
      by_cases c : j = m
      · rw [c, hp] at hq; cases hq
      · exact h2 j (by omega) hq
theorem mem_prA {n : Nat} {f : Nat → Nat → Nat} {a b : Nat} (hab : a < b) (hb : b < n) : ∀ k, a < k → ((f a b : Nat) : Int) ∈ prA n f k
  | 0, h => by omega
  | k + 1, h => by
    rw [prA, List.mem_append]
    by_cases c : a = k
    · refine .inr ?_
      subst c
      unfold seg
      rw [List.mem_map]
      exact ⟨b - (a + 1), by rw [List.mem_range]; omega, by rw [show a + 1 + (b - (a + 1)) = b by omega]⟩
    · exact .inl (mem_prA hab hb k (by omega))

/-- Whether a design is a Steiner triple system. -/
noncomputable def tripB (n : Int) (xss : List (List Int)) : Bool := desB n xss && (dPar n xss && (decide ((lens xss).getD 0 0 = 3) && decide ((prA n.toNat (prF xss.length (memP xss)) n.toNat).getD 0 0 = 1)))
structure IsT (n : Nat) (xss : List (List Int)) : Prop where
  des : Des n xss
  two : 2 ≤ n
  pos : 0 < xss.length
  three : ∀ i, i < xss.length → (xss.getD i []).length = 3
  one : ∀ a b : Nat, a < b → b < n → prF xss.length (memP xss) a b = 1
theorem sameL_mem {xs : List Int} (h : sameL xs = true) : ∀ x ∈ xs, x = xs.getD 0 0 := fun x hx => by
  unfold sameL at h
  have := List.all_eq_true.1 h x hx
  simpa using this
theorem of_tripB {n : Int} {xss : List (List Int)} (h : tripB n xss = true) : ∃ N : Nat, n = N ∧ IsT N xss := by
  unfold tripB at h
  simp only [Bool.and_eq_true, decide_eq_true_eq] at h
  obtain ⟨hd, hp, h3, h1⟩ := h
  have D := of_desB hd
  obtain ⟨N, rfl⟩ : ∃ N : Nat, n = N := ⟨n.toNat, by have := D.1; omega⟩
  unfold dPar parO at hp
  simp only [Bool.and_eq_true, decide_eq_true_eq, Int.toNat_natCast] at hp h1
  obtain ⟨p1, p2, p3, p4, p5⟩ := hp
  refine ⟨N, rfl, D, p1, p2, fun i hi => ?_, fun a b hab hb => ?_⟩
  · have e := sameL_mem p4 ((lens xss).getD i 0) (by
      rw [List.getD_eq_getElem?_getD, List.getElem?_eq_getElem (by unfold lens; rw [stL_len]; exact hi)]
      exact List.getElem_mem _)
    rw [h3] at e
    unfold lens at e
    rw [stL_getD _ _ i hi] at e
    omega
  · have e := sameL_mem p5 _ (mem_prA (f := prF xss.length (memP xss)) hab hb N (by omega))
    rw [h1] at e
    omega

/-- The third point, by the document: of the first block with both. -/
def thirdI (a b : Int) : List (List Int) → Int
  | [] => -1
  | x :: r => if a ∈ x ∧ b ∈ x then x.getD 0 0 + x.getD 1 0 + x.getD 2 0 - a - b else thirdI a b r
theorem third_at {a b : Int} : ∀ {xss : List (List Int)} {i : Nat}, i < xss.length → a ∈ xss.getD i [] → b ∈ xss.getD i [] → (∀ j, j < i → ¬ (a ∈ xss.getD j [] ∧ b ∈ xss.getD j [])) →
    thirdI a b xss = (xss.getD i []).getD 0 0 + (xss.getD i []).getD 1 0 + (xss.getD i []).getD 2 0 - a - b
  | [], i, h, _, _, _ => by simp at h
  | x :: r, 0, h, ha, hb, _ => by
    rw [thirdI, if_pos ⟨by simpa using ha, by simpa using hb⟩]; rfl
  | x :: r, i + 1, h, ha, hb, hn => by
    have e0 : ¬ (a ∈ x ∧ b ∈ x) := by simpa using hn 0 (by omega)
    rw [thirdI, if_neg e0]
    have := third_at (xss := r) (i := i) (by simpa using h) (by simpa using ha) (by simpa using hb) (fun j hj => by simpa using hn (j + 1) (by omega))
    rw [this]; rfl

theorem IsT.mem {n : Nat} {xss : List (List Int)} (h : IsT n xss) {i : Nat} (hi : i < xss.length) {x : Int} (hx : x ∈ xss.getD i []) : ∃ k : Nat, x = k ∧ k < n := by
  obtain ⟨j, hj, e⟩ := List.mem_iff_getElem.1 hx
  have q := (h.des.2.2.2 i hi).1.2 j hj
  unfold okAt at q
  rw [List.getD_eq_getElem?_getD, List.getElem?_eq_getElem hj, Option.getD_some, e] at q
  exact ⟨x.toNat, by omega, by omega⟩
theorem IsT.uniq {n : Nat} {xss : List (List Int)} (h : IsT n xss) {i j : Nat} (hi : i < xss.length) (hj : j < xss.length) {x y : Int} (hne : x ≠ y)
    (hx : x ∈ xss.getD i []) (hy : y ∈ xss.getD i []) (hx' : x ∈ xss.getD j []) (hy' : y ∈ xss.getD j []) : i = j := by
  obtain ⟨a, rfl, ha⟩ := h.mem hi hx
  obtain ⟨b, rfl, hb⟩ := h.mem hi hy
  have key : ∀ a b : Nat, a < b → b < n → (a : Int) ∈ xss.getD i [] → (b : Int) ∈ xss.getD i [] → (a : Int) ∈ xss.getD j [] → (b : Int) ∈ xss.getD j [] → i = j := fun a b hab hb ha1 hb1 ha2 hb2 => by
    obtain ⟨k, -, -, hk⟩ := cnt_one (h.one a b hab hb)
    have e1 := hk i hi (by unfold memP; rw [decide_eq_true ha1, decide_eq_true hb1]; rfl)
    have e2 := hk j hj (by unfold memP; rw [decide_eq_true ha2, decide_eq_true hb2]; rfl)
    omega
  rcases Nat.lt_or_ge a b with c | c
  · exact key a b c hb hx hy hx' hy'
  · exact key b a (by omega) ha hy hx hy' hx'
theorem IsT.third {n : Nat} {xss : List (List Int)} (h : IsT n xss) {i : Nat} (hi : i < xss.length) {x y : Int} (hne : x ≠ y) (hx : x ∈ xss.getD i []) (hy : y ∈ xss.getD i []) :
    thirdI x y xss = (xss.getD i []).getD 0 0 + (xss.getD i []).getD 1 0 + (xss.getD i []).getD 2 0 - x - y :=
  third_at hi hx hy fun j hj hq => by
    have := h.uniq (i := i) (j := j) hi (by omega) hne hx hy hq.1 hq.2
    omega
/-- Every two points are in a block. -/
theorem IsT.block {n : Nat} {xss : List (List Int)} (h : IsT n xss) {a b : Nat} (hne : a ≠ b) (ha : a < n) (hb : b < n) : ∃ i, i < xss.length ∧ (a : Int) ∈ xss.getD i [] ∧ (b : Int) ∈ xss.getD i [] := by
  rcases Nat.lt_or_ge a b with c | c
  · obtain ⟨i, hi, hp, -⟩ := cnt_one (h.one a b c hb)
    unfold memP at hp
    simp only [Bool.and_eq_true, decide_eq_true_eq] at hp
    exact ⟨i, hi, hp.1, hp.2⟩
  · obtain ⟨i, hi, hp, -⟩ := cnt_one (h.one b a (by omega) ha)
    unfold memP at hp
    simp only [Bool.and_eq_true, decide_eq_true_eq] at hp
    exact ⟨i, hi, hp.2, hp.1⟩
/-- The three points of a block. -/
theorem IsT.pts {n : Nat} {xss : List (List Int)} (h : IsT n xss) {i : Nat} (hi : i < xss.length) : ∃ p q r : Int, xss.getD i [] = [p, q, r] ∧ 0 ≤ p ∧ p < q ∧ q < r ∧ r < n := by
  have l := h.three i hi
  have R := (h.des.2.2.2 i hi).1.2
  obtain ⟨xs, hxs⟩ : ∃ xs, xss.getD i [] = xs := ⟨_, rfl⟩
  rw [hxs] at l R ⊢
  match xs, l with
  | [p, q, r], _ =>
    have a := R 0 (by simp)
    have b := R 1 (by simp)
    have c := R 2 (by simp)
    unfold okAt at a b c
    simp at a b c
    exact ⟨p, q, r, rfl, by omega, by omega, by omega, by omega⟩

/-! The third points of pairs, in a map. -/
section
open Go.RowKit Go.Shelf Go.Maps Go.WideMaps
set_option linter.unusedVariables false
set_option linter.unusedSimpArgs false

theorem Tryd.laidOut : laidOutB Tryd.prog = true := by kernel_rfl
theorem Tryd.rowPair : 77 < Tryd.prog.types.size := of_decide_eq_true (by kernel_rfl)
theorem Tryd.cellsPair : Tryd.prog.cellsOf 77 = 2 := by kernel_rfl
theorem Tryd.arrPair : ArrKey Tryd.prog 77 2 2 := ⟨Tryd.underlying77, by kernel_rfl, by kernel_rfl, Tryd.cellsPair⟩
theorem Tryd.lawPair : Keyed Tryd.prog 77 := Keyed.of_law (deep_law_laid Tryd.laidOut (m := 2) (by omega) Tryd.rowPair (by kernel_rfl) (by rw [Tryd.underlying77]))
theorem Tryd.typesPos : ∃ m, Tryd.prog.types.size = m + 1 := ⟨Tryd.prog.types.size - 1, by have := Tryd.rowPair; omega⟩
theorem Tryd.zeroI (w : World) : (zeroValue 2).run Tryd.prog w = .ok (.int .i64 0) w := by kernel_rfl

def pairV (x y : Int) : Value := .agg #[.int .i64 x, .int .i64 y]
def Sm (x : Int) : Prop := 0 ≤ x ∧ x ≤ 31
theorem Sm.wf {x : Int} (h : Sm x) : (Lit.int .i64 x).wf = true := WalkArith.wf_i64 (by unfold Sm at h; omega)
def keyP (x y : Int) : Lit := .string (keyBytes [.int .i64 x, .int .i64 y])
theorem keyOfP {x y : Int} (hx : Sm x) (hy : Sm y) : keyOf Tryd.prog 77 (.agg #[.int .i64 x, .int .i64 y]) = some (keyP x y) :=
  keyOf_pair Tryd.arrPair Tryd.underlying2 Tryd.typesPos hx.wf hy.wf
theorem keyP_ne {x y x' y' : Int} (hx : Sm x) (hy : Sm y) (hx' : Sm x') (hy' : Sm y') (h : ¬ (x' = x ∧ y' = y)) : keyP x' y' ≠ keyP x y := fun e => by
  have h1 := keyOfP hx hy
  have h2 := keyOfP hx' hy'
  rw [e] at h2
  have := Tryd.lawPair.inj h1 h2
  simp only [Value.agg.injEq, Array.mk.injEq, List.cons.injEq, Value.int.injEq, true_and, and_true] at this
  exact h ⟨this.1.symm, this.2.symm⟩

/-- Block b is a map with the third points of some pairs. -/
def MapT (w : World) (b k : Nat) (T : Int → Int → Int) (Q : Int → Int → Prop) : Prop :=
  ∃ D : DataW Unit, w.ownsMap Tryd.prog 77 (plainElem Tryd.prog 2) b k D ∧ IsMap D ∧ ∀ x y, Q x y → Sm x ∧ Sm y ∧ D.atKey (keyP x y) (.lit (.int .i64 0)) = .lit (.int .i64 (T x y))
theorem MapT.lt {w : World} {b k : Nat} {T : Int → Int → Int} {Q : Int → Int → Prop} (h : MapT w b k T Q) : b < w.heap.size := by
  obtain ⟨D, h1, -⟩ := h; exact h1.lt
theorem ownsMap_block {w w' : World} {P : Program} {t : TypeId} {R : Value → Option (DataW Unit × List MemPlace)} {b n : Nat} {D : DataW Unit} (h : w.ownsMap P t R b n D) (e : w'.heap[b]? = w.heap[b]?) : w'.ownsMap P t R b n D := by
  obtain ⟨es, clock, hb, F, hs, hD⟩ := h
  exact ⟨es, clock, e.trans hb, F, hs, hD⟩
theorem MapT.block {w w' : World} {b k : Nat} {T : Int → Int → Int} {Q : Int → Int → Prop} (h : MapT w b k T Q) (e : w'.heap[b]? = w.heap[b]?) : MapT w' b k T Q := by
  obtain ⟨D, h1, h2⟩ := h; exact ⟨D, ownsMap_block h1 e, h2⟩
theorem MapT.below {w w' : World} {b k B : Nat} {T : Int → Int → Int} {Q : Int → Int → Prop} (h : MapT w b k T Q) (hb : Below B w w') (hB : b < B) : MapT w' b k T Q := h.block (hb.block b hB)
theorem MapT.mono {w : World} {b k k' : Nat} {T : Int → Int → Int} {Q Q' : Int → Int → Prop} (h : MapT w b k T Q) (hk : k ≤ k') (hq : ∀ x y, Q' x y → Q x y) : MapT w b k' T Q' := by
  obtain ⟨D, h1, h2, h3⟩ := h
  exact ⟨D, h1.mono hk, h2, fun x y h => h3 x y (hq x y h)⟩
theorem MapT.made (w : World) (T : Int → Int → Int) : MapT (w.alloc (.map #[] 0)) w.heap.size 0 T (fun _ _ => False) :=
  ⟨.map [], World.ownsMap_made _ _ _ _, isMap_empty, fun _ _ h => h.elim⟩

theorem wpList_putT {ops : Array Oper} {rest : List Oper} {o : Oper} {a : Act} {Q' : Exit → Act → World → Prop} (w : World) (hg : o.guard = none) (m x v : Operand) (hop : o.op = Op.mapUpdate 45 m x v)
    (b k : Nat) (T : Int → Int → Int) (Q : Int → Int → Prop) (hm : a.eval m = .map (some b)) (h : MapT w b k T Q) (hk : k < 1000000) (p q z : Int)
    (hx : a.eval x = .agg #[.int .i64 p, .int .i64 q]) (hv : a.eval v = .int .i64 z) (hp : Sm p) (hq : Sm q) (hz : T p q = z) (wz : Sm z)
    (hK : ∀ w', MapT w' b (k + 1) T (fun x y => Q x y ∨ (x = p ∧ y = q)) → w.grownBy w' (some b) → wpList Tryd.prog ops Q' rest (a.put o.dst undef) w') :
    wpList Tryd.prog ops Q' (o :: rest) a w := by
  obtain ⟨D, h1, h2, h3⟩ := h
  refine wpList_mapUpdate_own w hg m x v _ hop 77 2 Tryd.lawPair Tryd.underlying45 (plainElem Tryd.prog 2) b k D hm h1 (by unfold maxLen; omega) _ _ (keyP p q) hx hv (keyOfP hp hq) (.lit (.int .i64 z)) [] (plainElem_int Tryd.underlying2 wz.wf) ?_
  intro w' r1 r2
  refine hK w' ⟨_, r1, h2.put _ _, fun x y hxy => ?_⟩ r2
  have hkl : WideAt.IsKeyLit (keyP p q) := Tryd.lawPair.key (keyOfP hp hq)
  by_cases e : x = p ∧ y = q
  · obtain ⟨rfl, rfl⟩ := e
    exact ⟨hp, hq, by rw [hz]; exact atKey_put_same h2 hkl _ _⟩
  · obtain ⟨sx, sy, ha⟩ := h3 x y (hxy.resolve_right e)
    exact ⟨sx, sy, by rw [atKey_put_other (keyP_ne hp hq sx sy e)]; exact ha⟩

theorem MapT.look {w : World} {b k : Nat} {T : Int → Int → Int} {Q : Int → Int → Prop} (h : MapT w b k T Q) {x y : Int} (hq : Q x y) :
    (Instr.lookup 45 (.map (some b)) (.agg #[.int .i64 x, .int .i64 y]) false).run Tryd.prog w = .ok (.int .i64 (T x y)) w := by
  obtain ⟨D, h1, h2, h3⟩ := h
  obtain ⟨sx, sy, ha⟩ := h3 x y hq
  obtain ⟨c, hrun, hat, -⟩ := h1.lookup_int Tryd.lawPair Tryd.underlying45 Tryd.underlying2 (Tryd.zeroI w) (keyOfP sx sy)
  rw [ha] at hat
  simp only [DataW.lit.injEq, Lit.int.injEq, true_and] at hat
  rw [hrun, hat]

theorem Ints.three {w : World} {B : Nat} {v : Value} {p q r : Int} (h : Ints w B v [p, q, r]) :
    ∃ g cap cs T, v = .slice (some ⟨g, 0, none⟩) 3 cap ∧ B ≤ g ∧ g < w.heap.size ∧ w.heap[g]? = some (.cells cs T (0, 0)) ∧ cs[0]? = some (.int .i64 p) ∧ cs[1]? = some (.int .i64 q) ∧ cs[2]? = some (.int .i64 r) := by
  obtain ⟨h1, ⟨rfl, h2⟩ | ⟨g, cap, cur, rfl, h3, h4, h5, h6, h7, h8⟩⟩ := h
  · cases h2
  · refine ⟨g, cap, cur, _, rfl, h3, (Array.getElem?_eq_some_iff.1 h4).1, h4, ?_, ?_, ?_⟩
    · have := congrArg (fun l => l[0]?) h8; simpa [List.getElem?_take] using this
    · have := congrArg (fun l => l[1]?) h8; simpa [List.getElem?_take] using this
    · have := congrArg (fun l => l[2]?) h8; simpa [List.getElem?_take] using this

/-- Two different points of a block. -/
def InP (ps : Nat → List Int) (m : Nat) (x y : Int) : Prop := ∃ i, i < m ∧ x ∈ ps i ∧ y ∈ ps i ∧ x ≠ y
/-- T gives the third points of a block. -/
def Thr (T : Int → Int → Int) (p q r : Int) : Prop := Sm p ∧ Sm q ∧ Sm r ∧ T p q = r ∧ T q p = r ∧ T q r = p ∧ T r q = p ∧ T r p = q ∧ T p r = q

set_option maxRecDepth 100000 in
set_option maxHeartbeats 4000000 in
theorem iThirds (n : Int) (m g : Nat) (S : Nat → Nat) (ps : Nat → List Int) (T : Int → Int → Int) (hm : m ≤ 128) (w : World) (hU : Ub w g m S) (hS : ∀ i, i < m → S i < 4294967296)
    (hP : ∀ i, i < m → fls 32 (fun k => (S i).testBit k) = ps i) (h3 : ∀ i, i < m → ∃ p q r, ps i = [p, q, r] ∧ Thr T p q r) (ht : Tab w) :
    Calls Tryd.prog 44 #[.agg #[.int .i64 n, .slice (some ⟨g, 0, none⟩) m m]] w fun e w' => ∃ b, e = .returned (.map (some b)) ∧ w.heap.size ≤ b ∧ MapT w' b (6 * m) T (InP ps m) ∧ Below w.heap.size w w' := by
  obtain ⟨B, hB⟩ : ∃ B, w.heap.size = B := ⟨_, rfl⟩
  have hpos : 0 < B := by rw [← hB]; exact ht.pos
  have lg : g < B := by rw [← hB]; exact hU.lt
  obtain ⟨w1, hw1⟩ : ∃ w1, w.alloc (.cells #[.int .i64 n, .slice (some ⟨g, 0, none⟩) m m] 44) = w1 := ⟨_, rfl⟩
  have z1 : w1.heap.size = B + 1 := by rw [← hw1, World.size_alloc, hB]
  have b1 : Below B w w1 := by rw [← hw1]; exact (Below.refl _ _).alloc (by omega) _
  have A1 : w1.heap[B]? = some (.cells #[.int .i64 n, .slice (some ⟨g, 0, none⟩) m m] 44 (0, 0)) := by rw [← hw1, ← hB]; exact heap_alloc_new _ _
  have hmm := @run_makeMap Tryd.prog
  have M2 := MapT.made w1 T
  rw [z1] at M2
  obtain ⟨w2, hw2⟩ : ∃ w2, w1.alloc (.map #[] 0) = w2 := ⟨_, rfl⟩
  rw [hw2] at M2
  have b12 : Below (B + 1) w1 w2 := by rw [← hw2]; exact (Below.refl _ _).alloc (Nat.le_of_eq z1.symm) _
  have A2 := (b12.block B (Nat.lt_succ_self B)).trans A1
  have c1 : w2.cell? ⟨B, 1, none⟩ = some (.slice (some ⟨g, 0, none⟩) m m) := by rw [cell_of_row w2 B 1 _ _ _ A2]; rfl
  have U2 : Hid (Ub w2 g m S) := (hU.below b1 lg).below b12 (by omega)
  have T2 : Hid (Tab w2) := (ht.below b1 hpos).below b12 (by omega)
  have B2 : Hid (Below B w w2) := b1.trans (b12.mono (by omega))
  have M2 : Hid (MapT w2 (B + 1) (6 * 0) T (InP ps 0)) := M2.mono (Nat.le_refl _) fun x y ⟨i, hi, _⟩ => absurd hi (Nat.not_lt_zero i)
  have HP : Hid (∀ i W, i < m → Tab W → Calls Tryd.prog 59 #[.int .u32 (S i : Nat)] W fun e w' => ∃ v, e = .returned v ∧ Ints w' W.heap.size v (ps i) ∧ Below W.heap.size W w') := fun i W hi ht => by
    have := ipoints (S i) W (hS i hi) ht
    rwa [hP i hi] at this
  have H3 := Lib.hid h3
  have HB := Lib.hid hB
  clear hU hS hP h3 ht A1 A2 b1 b12
  go_enter Tryd.func44, Tryd.ntmps44
  go_wp2
  try rw [hw1]
  try rw [z1]
  try rw [hw2]
  clear hw1 hw2 z1 c1 hB hmm
  go_loopw [15] (fun i wr => ∃ k : Nat, k ≤ m ∧ i = .int .i64 k ∧ Hid (MapT wr (B + 1) (6 * k) T (InP ps k)) ∧ Hid (Ub wr g m S) ∧ Hid (Tab wr) ∧ Hid (Below B w wr)) (fun i _ => m - (intOf i).toNat)
  case atStart => exact ⟨0, by omega, rfl, M2, U2, T2, B2⟩
  case round =>
    obtain ⟨k, hk, rfl, hM, hUr, hT, hBl⟩ := hrel
    by_cases ck : k < m
    · have k1 : decide (k < m) = true := by simpa using ck
      have k1' : decide ((k : Int) < (m : Int)) = true := decide_eq_true (by omega)
      have wk := IntWalk.i64_in ((k : Int) + 1) (by omega)
      have j0 : (0 : Int) ≤ (k : Int) := by omega
      have j1 : (k : Int) < (m : Int) := by omega
      have u1 := hUr.out.cell k ck
      have HPk := Lib.hid (HP.out k wr ck hT.out)
      obtain ⟨p, q, r, hps, sp, sq, sr, e1, e2, e3, e4, e5, e6⟩ := H3.out k ck
      have HPS := Lib.hid hps
      rw [hps] at HPk
      obtain ⟨s, hs⟩ : ∃ s, S k = s := ⟨_, rfl⟩
      rw [hs] at u1 HPk
      have lr : B + 1 < wr.heap.size := hM.out.lt
      clear hs hps
      go_wp2_with fail
      refine HPk.out.mono ?_
      rintro e w5 ⟨v5, rfl, i5, b5⟩
      obtain ⟨g5, cap5, cs, TT, rfl, hg5, hl5, R5, d0, d1, d2⟩ := Ints.three i5
      have D0 := Lib.hid d0
      have D1 := Lib.hid d1
      have D2 := Lib.hid d2
      have M5 : Hid (MapT w5 (B + 1) (6 * k) T (InP ps k)) := hM.out.below b5 (by omega)
      have U5 : Hid (Ub w5 g m S) := hUr.out.below b5 (by omega)
      have T5 : Hid (Tab w5) := hT.out.below b5 (by omega)
      have B5 : Hid (Below B w w5) := hBl.out.trans (b5.mono (by omega))
      have ne5 : g5 ≠ B + 1 := by omega
      have R5 := Lib.hid R5
      have hw5 : B + 1 < w5.heap.size := by omega
      clear i5 b5 d0 d1 d2 hM hUr hT hBl lr hg5 hl5 u1
      go_wp2
      refine wp_loop_rounds 4 ?_
      rw [rounds_succ]
      have c00 : w5.cell? ⟨g5, 0, none⟩ = some (.int .i64 p) := by rw [cell_of_row w5 g5 0 _ _ _ R5.out]; exact D0.out
      have c01 : w5.cell? ⟨g5, 1, none⟩ = some (.int .i64 q) := by rw [cell_of_row w5 g5 1 _ _ _ R5.out]; exact D1.out
      have c02 : w5.cell? ⟨g5, 2, none⟩ = some (.int .i64 r) := by rw [cell_of_row w5 g5 2 _ _ _ R5.out]; exact D2.out
      go_wp2
      go_quiet (fail)
      go_wp2_with (first | (at_mapUpdate; refine wpList_putT _ rfl _ _ _ rfl (B + 1) (6 * k + 0) T _ rfl (MapT.block M5.out rfl) (by omega) q r p rfl rfl sq sr e3 sp ?_; intro w6 h6 gr6; refine wpList_putT _ rfl _ _ _ rfl (B + 1) (6 * k + 1) T _ rfl h6 (by omega) r q p rfl rfl sr sq e4 sp ?_; intro w7 h7 gr7) | go_in)
      have G7 : ∀ i, i ≠ B + 1 → i < w5.heap.size → w7.heap[i]? = w5.heap[i]? := fun i h1 h2 => (gr7.block i (by have := gr6.size; exact Nat.lt_of_lt_of_le h2 this) (by simpa using h1)).trans (gr6.block i h2 (by simpa using h1))
      have R7 : Hid (w7.heap[g5]? = some (.cells cs TT (0, 0))) := (G7 g5 ne5 (Array.getElem?_eq_some_iff.1 R5.out).1).trans R5.out
      have U7 : Hid (Ub w7 g m S) := (G7 g (by omega) U5.out.lt).trans U5.out
      have T7 : Hid (Tab w7) := fun i hi => by
        have := T5.out i hi
        unfold World.cell? at this ⊢
        rw [G7 0 (by omega) T5.out.pos]; exact this
      have B7 : Hid (Below B w w7) := (Below.grown (Below.grown (below_drewN B5.out _) gr6 (show B ≤ w5.heap.size by omega) (fun k hk => by cases hk; omega)) gr7 (by have := gr6.size; have : w5.heap.size ≤ w6.heap.size := this; omega) (fun k hk => by cases hk; omega))
      have M7 := Lib.hid h7
      have hw7 : B + 1 < w7.heap.size := h7.lt
      clear G7 gr6 gr7 h6 h7 c00 c01 c02 M5 R5 U5 T5 B5
      go_wp2
      rw [rounds_succ]
      have c10 : w7.cell? ⟨g5, 0, none⟩ = some (.int .i64 p) := by rw [cell_of_row w7 g5 0 _ _ _ R7.out]; exact D0.out
      have c11 : w7.cell? ⟨g5, 1, none⟩ = some (.int .i64 q) := by rw [cell_of_row w7 g5 1 _ _ _ R7.out]; exact D1.out
      have c12 : w7.cell? ⟨g5, 2, none⟩ = some (.int .i64 r) := by rw [cell_of_row w7 g5 2 _ _ _ R7.out]; exact D2.out
      go_wp2
      go_quiet (fail)
      go_wp2_with (first | (at_mapUpdate; refine wpList_putT _ rfl _ _ _ rfl (B + 1) (6 * k + 2) T _ rfl (MapT.block M7.out rfl) (by omega) r p q rfl rfl sr sp e5 sq ?_; intro w8 h8 gr8; refine wpList_putT _ rfl _ _ _ rfl (B + 1) (6 * k + 3) T _ rfl h8 (by omega) p r q rfl rfl sp sr e6 sq ?_; intro w9 h9 gr9) | go_in)
      have G9 : ∀ i, i ≠ B + 1 → i < w7.heap.size → w9.heap[i]? = w7.heap[i]? := fun i h1 h2 => (gr9.block i (by have := gr8.size; exact Nat.lt_of_lt_of_le h2 this) (by simpa using h1)).trans (gr8.block i h2 (by simpa using h1))
      have R9 : Hid (w9.heap[g5]? = some (.cells cs TT (0, 0))) := (G9 g5 ne5 (Array.getElem?_eq_some_iff.1 R7.out).1).trans R7.out
      have U9 : Hid (Ub w9 g m S) := (G9 g (by omega) U7.out.lt).trans U7.out
      have T9 : Hid (Tab w9) := fun i hi => by
        have := T7.out i hi
        unfold World.cell? at this ⊢
        rw [G9 0 (by omega) T7.out.pos]; exact this
      have B9 : Hid (Below B w w9) := (Below.grown (Below.grown (below_drewN B7.out _) gr8 (show B ≤ w7.heap.size by omega) (fun k hk => by cases hk; omega)) gr9 (by have := gr8.size; have : w7.heap.size ≤ w8.heap.size := this; omega) (fun k hk => by cases hk; omega))
      have M9 := Lib.hid h9
      have hw9 : B + 1 < w9.heap.size := h9.lt
      clear G9 gr8 gr9 h8 h9 c10 c11 c12 M7 R7 U7 T7 B7
      go_wp2
      rw [rounds_succ]
      have c20 : w9.cell? ⟨g5, 0, none⟩ = some (.int .i64 p) := by rw [cell_of_row w9 g5 0 _ _ _ R9.out]; exact D0.out
      have c21 : w9.cell? ⟨g5, 1, none⟩ = some (.int .i64 q) := by rw [cell_of_row w9 g5 1 _ _ _ R9.out]; exact D1.out
      have c22 : w9.cell? ⟨g5, 2, none⟩ = some (.int .i64 r) := by rw [cell_of_row w9 g5 2 _ _ _ R9.out]; exact D2.out
      go_wp2
      go_quiet (fail)
      go_wp2_with (first | (at_mapUpdate; refine wpList_putT _ rfl _ _ _ rfl (B + 1) (6 * k + 4) T _ rfl (MapT.block M9.out rfl) (by omega) p q r rfl rfl sp sq e1 sr ?_; intro w10 h10 gr10; refine wpList_putT _ rfl _ _ _ rfl (B + 1) (6 * k + 5) T _ rfl h10 (by omega) q p r rfl rfl sq sp e2 sr ?_; intro w11 h11 gr11) | go_in)
      have G11 : ∀ i, i ≠ B + 1 → i < w9.heap.size → w11.heap[i]? = w9.heap[i]? := fun i h1 h2 => (gr11.block i (by have := gr10.size; exact Nat.lt_of_lt_of_le h2 this) (by simpa using h1)).trans (gr10.block i h2 (by simpa using h1))
      have R11 : Hid (w11.heap[g5]? = some (.cells cs TT (0, 0))) := (G11 g5 ne5 (Array.getElem?_eq_some_iff.1 R9.out).1).trans R9.out
      have U11 : Hid (Ub w11 g m S) := (G11 g (by omega) U9.out.lt).trans U9.out
      have T11 : Hid (Tab w11) := fun i hi => by
        have := T9.out i hi
        unfold World.cell? at this ⊢
        rw [G11 0 (by omega) T9.out.pos]; exact this
      have B11 : Hid (Below B w w11) := (Below.grown (Below.grown (below_drewN B9.out _) gr10 (show B ≤ w9.heap.size by omega) (fun k hk => by cases hk; omega)) gr11 (by have := gr10.size; have : w9.heap.size ≤ w10.heap.size := this; omega) (fun k hk => by cases hk; omega))
      have M11 := Lib.hid h11
      have hw11 : B + 1 < w11.heap.size := h11.lt
      clear G11 gr10 gr11 h10 h11 c20 c21 c22 M9 R9 U9 T9 B9
      go_wp2
      rw [rounds_succ]
      go_wp2
      have M9 : Hid (MapT w11 (B + 1) (6 * (k + 1)) T (InP ps (k + 1))) := M11.out.mono (by omega) fun x y h => by
        obtain ⟨i, hi, hx, hy, hne⟩ := h
        by_cases c : i = k
        · subst c
          rw [HPS.out] at hx hy
          simp only [List.mem_cons, List.not_mem_nil, or_false] at hx hy
          rcases hx with rfl | rfl | rfl <;> rcases hy with rfl | rfl | rfl <;> first | exact absurd rfl hne | simp
        · have : InP ps k x y := ⟨i, by omega, hx, hy, hne⟩
          simp [this]
      go_roundw
      case rel => exact ⟨k + 1, by omega, by go_num, M9, U11, T11, B11⟩
      case measure => simp [intOf]; omega
    · have k1 : decide (k < m) = false := by simpa using ck
      have k1' : decide ((k : Int) < (m : Int)) = false := decide_eq_false (by omega)
      obtain rfl : k = m := by omega
      go_wp2
      go_ret
      exact ⟨B + 1, rfl, by have := HB.out; omega, hM.out, by rw [HB.out]; exact hBl.out⟩
end
end Go.Proofs.YtanfodbpgpfjmabDoor
