/- The text of a set; which of two sets comes before; whether a list of sets is in order (sort.SliceIsSorted). -/
import Derived.Test.YtdhlnagkhkcoiaaDoorU3
import Derived.Test.YtdhlnagkhkcoiaaDoorDm
import Derived.StillTailTactics
import Derived.Lib.ReflectliteSlice
import Derived.Laws.Externs
import Derived.BigCall
import Derived.Maps.AppendAt
import Derived.Deep.Cut
namespace Go.Proofs.YtdhlnagkhkcoiaaDoor
open Go.RowKit Go.Shelf
set_option linter.unusedVariables false

theorem bytes_snoc (xs : List Int) (x : Int) : bytesOf (xs ++ [x]) = bytesOf xs ++ [UInt8.ofNat x.toNat] := by simp [bytesOf]

/-- Bytes of the call's own, in block B or in one from N on; all other blocks below N are as in w2. -/
def TxO (B N : Nat) (w2 wr : World) (v : Value) (L : List UInt8) : Prop :=
  Byt wr B v L ∧ (∀ k, v.ownBlock = some k → k = B ∨ N ≤ k) ∧ (∀ k, k ≠ B → k < N → wr.heap[k]? = w2.heap[k]?) ∧ N ≤ wr.heap.size ∧ Below B w2 wr
theorem wpList_pushTx {ops : Array Oper} {rest : List Oper} {o : Oper} {a : Act} {Q : Exit → Act → World → Prop} (w : World) (hgd : o.guard = none) (s x : Operand)
    (ho : o.op = .call { callee := .builtin .append, args := #[s, x], argTypes := #[176, 176] })
    (B N : Nat) (w2 : World) (v : Value) (L : List UInt8) (hs : a.eval s = v) (h : TxO B N w2 w v L) (y : UInt8) (z : Int) (hz : (y.toNat : Int) = z) (T : TypeId) (hx : a.eval x = .slice (some ⟨w.heap.size, 0, none⟩) 1 1)
    (hl : L.length < 1000000000000) (hB : B < N)
    (hK : ∀ v' w', TxO B N w2 w' v' (L ++ [y]) → wpList Tryd.prog ops Q rest (a.put o.dst v') w') :
    wpList Tryd.prog ops Q (o :: rest) a (w.alloc (.cells #[.int .u8 z] T)) := by
  obtain ⟨i0, hi, hz0, hz1, hz2⟩ := info_parts Tryd.infoU8
  subst hz
  obtain ⟨h1, h2, h3, h4, h5⟩ := h
  refine wpList_append_own_at _ hgd s x 176 ho B 5 i0 (.int .u8 0) 1 1 Tryd.underlying176 hi hz0 hz1 hz2 rfl (by decide) v L.length _ hs (World.ownsRow.alloc h1 _) ⟨w.heap.size, 0, none⟩ 1 1 [.int .u8 (y.toNat : Int)] hx rfl ?c1 ?c2 ?c3 ?c4 ?c5 ?_
  case c1 =>
    intro j u hj
    match j, hj with
    | 0, hj => simp at hj; subst hj; simp [Addr.add]
  case c2 => intro u hu; simp at hu; subst hu; rfl
  case c3 => unfold maxLen; omega
  case c4 => omega
  case c5 => simp; omega
  intro v' w' h' hg _ hat
  have sz : w.heap.size + 1 ≤ w'.heap.size := by have := hg.size; simpa only [World.size_alloc] using this
  refine hK v' w' ⟨?_, fun k hk => ?_, fun k k1 k2 => ?_, by omega, ?_⟩
  · unfold Byt
    rw [List.length_append, List.map_append]
    exact h'
  · rcases hat with e | e
    · exact h2 k (by rw [← e]; exact hk)
    · rw [hk] at e
      simp only [World.size_alloc, Option.some.injEq] at e
      omega
  · rw [hg.block k (by simp only [World.size_alloc]; omega) (fun e => by have := h2 k e.symm; omega), Below.heap_alloc _ _ _ (by omega)]
    exact h3 k k1 k2
  · exact h5.trans (((Below.refl w.heap.size w).alloc (Nat.le_refl _) _).mono (by omega) |>.grown hg (by simp; omega) (fun k hk => (World.ownsRow.lt h1 k hk).1))

set_option maxRecDepth 100000 in
set_option maxHeartbeats 1000000 in
theorem iText (x : Nat) (w : World) (hx : x < 4294967296) (ht : Tab w) :
    Calls Tryd.prog 142 #[.int .u32 x] w fun e w' => e = .returned (.string ⟨(textOf x).toArray⟩) ∧ Below w.heap.size w w' := by
  obtain ⟨B, hB⟩ : ∃ B, w.heap.size = B := ⟨_, rfl⟩
  have hpos : 0 < B := by rw [← hB]; exact ht.pos
  have hmk : ∀ W : World, (Instr.makeSlice 176 (.int .i64 0) (.int .i64 32)).run Tryd.prog W = .ok (.slice (some ⟨W.heap.size, 0, none⟩) 0 32) (W.alloc (.cells (madeCells #[.int .u8 0] 32) 5)) := fun W : World => run_make_room (P := Tryd.prog) 176 5 (.int .u8 0) 1 Tryd.underlying176 Tryd.infoU8 rfl .i64 .i64 32 (by decide) (by decide) W
  obtain ⟨w1, hw1⟩ : ∃ w1, w.alloc (.cells (madeCells #[.int .u8 0] 32) 5) = w1 := ⟨_, rfl⟩
  have b1 : Below B w w1 := by rw [← hw1]; exact (Below.refl _ _).alloc (by omega) _
  have z1 : w1.heap.size = B + 1 := by rw [← hw1, World.size_alloc, hB]
  have HI : Hid (Byt w1 B (.slice (some ⟨B, 0, none⟩) 0 32) (bytesOf [])) := by
    unfold Hid
    rw [← hw1, ← hB]
    exact World.ownsRow_made w _ 32 (Nat.le_refl _) (by decide) (by rw [size_madeCells])
  have HP := Lib.hid (ipoints x w1 hx (ht.below b1 hpos))
  have HB := Lib.hid b1
  have HWB := Lib.hid hB
  have TX : Hid (textOf x = bytesOf (fls 32 (fun k => x.testBit k))) := rfl
  have FR := Lib.hid (fls_range (q := 32) (P := fun k => x.testBit k) (Nat.le_refl _))
  have FL := fls_len 32 (fun k => x.testBit k)
  obtain ⟨xs, hxs⟩ : ∃ xs, fls 32 (fun k => x.testBit k) = xs := ⟨_, rfl⟩
  rw [hxs] at HP TX FR FL
  rw [z1] at HP
  rw [TX.out]
  clear ht b1 hxs TX hx
  go_enter Tryd.func142, Tryd.ntmps142
  go_wp2_with fail
  refine HP.out.mono ?_
  rintro e w2 ⟨v, rfl, i2, b2⟩
  have B2 : Hid (Below B w w2) := HB.out.trans (b2.mono (by omega))
  have z2 : B < w2.heap.size := by have := b2.size; omega
  have I2 : Hid (TxO B w2.heap.size w2 w2 (.slice (some ⟨B, 0, none⟩) 0 32) (bytesOf (xs.take 0))) := by
    refine ⟨?_, fun k hk => ?_, fun _ _ _ => rfl, Nat.le_refl _, Below.refl _ _⟩
    · have := World.ownsRow.kept (row := none) HI.out ⟨b2.os, b2.tape, b2.output, b2.size, fun k hk _ => b2.block k (by omega)⟩ (by simp [Value.ownBlock])
      simpa [Byt, bytesOf] using this
    · simp [Value.ownBlock] at hk; exact .inl hk.symm
  obtain ⟨m, hm⟩ : ∃ m, xs.length = m := ⟨_, rfl⟩
  have HC : Hid (∀ W : World, (∀ k, k ≠ B → k < w2.heap.size → W.heap[k]? = w2.heap[k]?) → ∀ a cap, v = .slice a m cap → ∀ j, j < m → ∃ g off, a = some ⟨g, off, none⟩ ∧ W.cell? ⟨g, off + j, none⟩ = some (.int .i64 (xs.getD j 0))) := fun W hW a cap e j hj => by
    subst e
    have lt := World.ownsRow.lt i2
    obtain ⟨a', cap', e, -, hc⟩ := i2.at.shape
    simp only [Value.slice.injEq] at e
    obtain ⟨rfl, -, -⟩ := e
    obtain ⟨g, off, rfl, k⟩ := hc j (by omega)
    have l := lt g rfl
    refine ⟨g, off, rfl, ?_⟩
    rw [← k]
    unfold World.cell?
    rw [hW g (by omega) l.2]
  obtain ⟨a, cap, rfl, -, -⟩ := i2.at.shape
  have TK : Hid (∀ j, j < m → bytesOf (xs.take (j + 1)) = bytesOf (xs.take j) ++ [UInt8.ofNat (xs.getD j 0).toNat]) := fun j hj => by
    rw [take_getD (by omega), bytes_snoc]
  have BD : Hid (∀ j, j < m → 0 ≤ xs.getD j 0 ∧ xs.getD j 0 ≤ 31) := fun j hj => FR.out _ (by rw [List.getD_eq_getElem?_getD, List.getElem?_eq_getElem (by omega)]; exact List.getElem_mem _)
  have ED : Hid (bytesOf (xs.take m) = bytesOf xs) := by rw [← hm, List.take_length]; rfl
  have LE : Hid (∀ j, (bytesOf (xs.take j)).length ≤ 32) := fun j => by unfold bytesOf; rw [List.length_map, List.length_take]; omega
  rw [hm] at HC FL ⊢
  clear i2 b2 hm hmk hw1 HI HP FR
  go_wp2
  go_loopw [3, 10] (fun tv i wr => ∃ j : Nat, j ≤ m ∧ i = .int .i64 j ∧ Hid (TxO B w2.heap.size w2 wr tv (bytesOf (xs.take j)))) (fun _ i _ => m - (intOf i).toNat)
  case atStart => exact ⟨0, by omega, rfl, I2⟩
  case round =>
    obtain ⟨j, hj, rfl, hT⟩ := hrel
    by_cases c : j < m
    · have k1 : decide (j < m) = true := by simpa using c
      have k1' : decide ((j : Int) < (m : Int)) = true := decide_eq_true (by omega)
      have w3 := IntWalk.i64_in ((j : Int) + 1) (by omega)
      obtain ⟨b0, b31⟩ := BD.out j c
      obtain ⟨g, off, ha, cj⟩ := HC.out wr hT.out.2.2.1 _ _ rfl j c
      subst ha
      have TJ := Lib.hid (TK.out j c)
      obtain ⟨t, ht⟩ : ∃ t : Nat, xs.getD j 0 = t := ⟨(xs.getD j 0).toNat, by omega⟩
      rw [ht] at cj b0 b31 TJ
      rw [Int.toNat_natCast] at TJ
      have q : (UInt8.ofNat t).toNat = t := by rw [UInt8.toNat_ofNat']; omega
      have wq : IntKind.u8.wrap (t : Int) = (t : Int) := by rw [IntKind.wrap_u8]; omega
      have QQ : Hid (((UInt8.ofNat t).toNat : Int) = (t : Int)) := by unfold Hid; rw [q]
      have j0 : (0 : Int) ≤ (j : Int) := by omega
      have j1 : (j : Int) < (m : Int) := by omega
      have LJ := LE.out j
      have ln : (bytesOf (xs.take j)).length < 1000000000000 := by omega
      clear ht q LJ
      go_wp2_with (at_builtin; refine wpList_pushTx wr (by rfl) _ _ (by rfl) B w2.heap.size w2 _ _ (by rfl) hT.out (UInt8.ofNat t) _ QQ.out _ (by rfl) ln z2 ?_; intro v' w5 hn; have HN := Lib.hid hn; clear hn)
      go_roundw
      case rel => exact ⟨j + 1, by omega, by go_num, by rw [TJ.out]; exact HN⟩
      case measure => simp [intOf]; omega
    · have k1 : decide (j < m) = false := by simpa using c
      have k1' : decide ((j : Int) < (m : Int)) = false := decide_eq_false (by omega)
      obtain rfl : j = m := by omega
      have TE := hT.out.1.text
      rw [ED.out] at TE
      have BB : Hid (Below B w wr) := B2.out.trans hT.out.2.2.2.2
      go_wp2
      go_ret
      exact ⟨rfl, by rw [HWB.out]; exact BB.out⟩

/-! Which of two sets comes before, through an interface; whether a list of sets is in order (sort.SliceIsSorted). -/
section
open Go.RowKit Go.Shelf
set_option linter.unusedVariables false

set_option maxRecDepth 100000 in
set_option maxHeartbeats 1000000 in
theorem icomes (x y : Nat) (w : World) (hx : x < 4294967296) (hy : y < 4294967296) (ht : Tab w) :
    Calls Tryd.prog 85 #[.iface 81 (.int .u32 x), .iface 81 (.int .u32 y)] w fun e w' => e = .returned (.bool (Op.bytesLess (textOf x) (textOf y))) ∧ Below w.heap.size w w' := by
  have cm : ∀ (v : Value) (W : World), (callMethod (.iface 81 v) "String" #[]).run Tryd.prog W = .ok (.enter 142 #[v]) W := fun v W => by kernel_rfl
  have H1 := Lib.hid (iText x w hx ht)
  have H2 := Lib.hid (fun W h => iText y W hy h)
  have TB := Lib.hid ht
  have hp := ht.pos
  obtain ⟨X, hX⟩ : ∃ X, textOf x = X := ⟨_, rfl⟩
  obtain ⟨Y, hY⟩ : ∃ Y, textOf y = Y := ⟨_, rfl⟩
  rw [hX] at H1 ⊢
  simp only [hY] at H2 ⊢
  clear hX hY ht hx hy
  go_enter Tryd.func85, Tryd.ntmps85
  go_wp2_with fail
  refine H1.out.mono ?_
  rintro e w1 ⟨rfl, b1⟩
  have B1 := Lib.hid b1
  clear b1
  go_wp2_with fail
  refine (H2.out w1 (TB.out.below B1.out hp)).mono ?_
  rintro e w2 ⟨rfl, b2⟩
  have B2 := Lib.hid (t_chain B1.out b2)
  clear b2
  go_wp2
  go_ret
  exact ⟨rfl, B2.out⟩

set_option maxRecDepth 100000 in
set_option maxHeartbeats 1000000 in
theorem iless (b g m cp : Nat) (S : Nat → Nat) (hm : m ≤ 128) (i j : Nat) (hi : i < m) (hj : j < m) (w : World) (hb : w.cell? ⟨b, 0, none⟩ = some (.slice (some ⟨g, 0, none⟩) m cp)) (hU : Uc w g m S) (hS : ∀ i, i < m → S i < 4294967296) (ht : Tab w) :
    Calls Tryd.prog 84 #[.int .i64 i, .int .i64 j, .pointer (some ⟨b, 0, none⟩)] w fun e w' => e = .returned (.bool (Op.bytesLess (textOf (S i)) (textOf (S j)))) ∧ Below w.heap.size w w' := by
  have cc : Tryd.prog.concrete 81 = true := by kernel_rfl
  obtain ⟨wd, hwd⟩ : ∃ wd, w.drew = wd := ⟨_, rfl⟩
  have hb2 : wd.cell? ⟨b, 0, none⟩ = some (.slice (some ⟨g, 0, none⟩) m cp) := by rw [← hwd]; exact hb
  have U2 : Uc wd g m S := by rw [← hwd]; exact hU
  have ci := U2.cell i hi
  have cj := U2.cell j hj
  have HC := Lib.hid (icomes (S i) (S j) w.drew (hS i hi) (hS j hj) ht)
  have B0 : Hid (Below w.heap.size w w.drew) := (Below.refl _ _).drew
  have i0 : (0 : Int) ≤ (i : Int) := by omega
  have i1 : (i : Int) < (m : Int) := by omega
  have j0 : (0 : Int) ≤ (j : Int) := by omega
  have j1 : (j : Int) < (m : Int) := by omega
  obtain ⟨si, hsi⟩ : ∃ s, S i = s := ⟨_, rfl⟩
  obtain ⟨sj, hsj⟩ : ∃ s, S j = s := ⟨_, rfl⟩
  rw [hsi] at ci HC ⊢
  rw [hsj] at cj HC ⊢
  clear hsi hsj U2 hb hU hS ht
  go_enter Tryd.func84, Tryd.ntmps84
  go_wp2
  refine wp_region_still_tail 10 (by kernel_rfl) (by kernel_rfl) ?_
  simp only [List.take_succ_cons, List.take_zero, List.drop_succ_cons, List.drop_zero]
  change wpStill _ _ w.drew _ _ _
  rw [hwd]
  repeat still_step
  refine wpStill_nil ?_
  clear hwd
  go_wp2_with fail
  refine HC.out.mono ?_
  rintro e w2 ⟨rfl, b2⟩
  have B2 : Hid (Below w.heap.size w w2) := B0.out.trans b2
  clear b2
  go_wp2
  go_ret
  exact ⟨rfl, B2.out⟩

/-- Whether a list of texts is in order. -/
def inOrder (S : Nat → Nat) (m : Nat) : Prop := ∀ i, 0 < i → i < m → Op.bytesLess (textOf (S i)) (textOf (S (i - 1))) = false
noncomputable def inOrderB (S : Nat → Nat) (m : Nat) : Bool := @decide (inOrder S m) (Classical.propDecidable _)
theorem inOrder_true {S : Nat → Nat} {m : Nat} (h : inOrder S m) : inOrderB S m = true := @decide_eq_true _ (Classical.propDecidable _) h
theorem inOrder_false {S : Nat → Nat} {m i : Nat} (h0 : 0 < i) (hi : i < m) (h : Op.bytesLess (textOf (S i)) (textOf (S (i - 1))) = true) : inOrderB S m = false :=
  @decide_eq_false _ (Classical.propDecidable _) (fun k => by rw [k i h0 hi] at h; cases h)

set_option maxRecDepth 100000 in
set_option maxHeartbeats 2000000 in
theorem isorted (b g m : Nat) (S : Nat → Nat) (hm : m ≤ 128) (w : World) (hb : w.cell? ⟨b, 0, none⟩ = some (.slice (some ⟨g, 0, none⟩) m m)) (hU : Ub w g m S) (hS : ∀ i, i < m → S i < 4294967296) (ht : Tab w) :
    Calls Tryd.prog 68 #[.iface 51 (.slice (some ⟨g, 0, none⟩) m m), .func (.func 84) #[] #[.pointer (some ⟨b, 0, none⟩)]] w fun e w' => e = .returned (.bool (inOrderB S m)) ∧ Below w.heap.size w w' := by
  obtain ⟨i0, hi0⟩ : ∃ i0, Tryd.prog.info? 51 = some i0 := Option.isSome_iff_exists.1 (by kernel_rfl)
  have hd : i0.desc = .slice 81 := by
    have e : (Tryd.prog.info? 51).map (·.desc) = some (.slice 81) := by kernel_rfl
    rw [hi0] at e; simpa using e
  have hv := Lib.run_valueOf_slice (P := Tryd.prog) 51 81 i0 hi0 hd (some ⟨g, 0, none⟩) m m w
  have hl := fun a W ha => Lib.run_valueLen_slice (P := Tryd.prog) 51 81 i0 hi0 hd (by kernel_rfl) a (some ⟨g, 0, none⟩) m m W ha
  simp only [typeHandle] at hv hl
  have gs : Tryd.prog.globals.size = 1 := by kernel_rfl
  simp only [gs] at hv hl
  clear gs
  obtain ⟨B, hB⟩ : ∃ B, w.heap.size = B := ⟨_, rfl⟩
  have HL := Lib.hid (fun W (hw : Below B w W) i j hi hj => iless b g m m S hm i j hi hj W
    (by rw [hw.cell (p := ⟨b, 0, none⟩) (by rw [← hB]; exact World.block_lt_of_cell? w _ hb)]; exact hb) (hU.below hw (by rw [← hB]; exact hU.lt)).uc hS (ht.below hw (by rw [← hB]; exact ht.pos)))
  have hcf : ∀ args W, (callFunc 84 args).run Tryd.prog W = .ok (.enter 84 args) W := enters_of Tryd.func84 (by kernel_rfl) rfl
  have YES := Lib.hid (fun h => inOrder_true (S := S) (m := m) h)
  have NO := Lib.hid (fun i h0 hi h => inOrder_false (S := S) (m := m) (i := i) h0 hi h)
  obtain ⟨V, hV⟩ : ∃ V, inOrderB S m = V := ⟨_, rfl⟩
  rw [hV] at YES NO ⊢
  have HB := Lib.hid hB
  clear hb hU hS ht hV hi0 hd
  go_enter Tryd.func68, Tryd.ntmps68
  go_wp2
  rw [run_callFunc_extern Tryd.func82 (by kernel_rfl) (by kernel_rfl) (by kernel_rfl) (e := fun args => Extern.ReflectliteValue.unpack (args.getD 0 (.tuple #[]))) (by kernel_rfl),
    show Sem.run Tryd.prog ((fun args : Array Value => Extern.ReflectliteValue.unpack (args.getD 0 (.tuple #[]))) #[.iface 51 (.slice (some ⟨g, 0, none⟩) m m)]) w = _ from hv]
  simp only [Result.andThen]
  rw [Oper.upon_value]
  go_wp2
  rw [run_callFunc_extern Tryd.func83 (by kernel_rfl) (by kernel_rfl) (by kernel_rfl) (e := Extern.ReflectliteValue.method (Extern.ReflectliteValue.valueError "reflectlite.Value.Len" 0) Extern.ReflectliteValue.len) (by kernel_rfl),
    hl ⟨B, 0, none⟩ ((w.alloc (.cells #[.slice (some ⟨g, 0, none⟩) m m] 51)).alloc (.cells #[.pointer (some ⟨1, 51, none⟩), .pointer (some ⟨B, 0, none⟩), .int .u64 151] 117)) (by rw [← hB]; simp)]
  simp only [Result.andThen]
  rw [Oper.upon_value]
  have wm := IntWalk.i64_in ((m : Int) - 1) (by omega)
  clear hv hl
  go_wp2
  obtain ⟨wo, hwo⟩ : ∃ wo, (w.alloc (.cells #[.slice (some ⟨g, 0, none⟩) m m] 51)).alloc (.cells #[.pointer (some ⟨1, 51, none⟩), .pointer (some ⟨B, 0, none⟩), .int .u64 151] 117) = wo := ⟨_, rfl⟩
  have B0 : Hid (Below B w wo) := by
    have b1 : Below B w (w.alloc (.cells #[.slice (some ⟨g, 0, none⟩) m m] 51)) := (Below.refl _ _).alloc (by omega) _
    unfold Hid; rw [← hwo]
    exact b1.alloc (by rw [World.size_alloc]; omega) _
  try rw [hwo]
  clear hwo hB
  go_loopw [7] (fun i wr => ∃ z : Int, -1 ≤ z ∧ z < m ∧ i = .int .i64 z ∧ Hid (∀ j : Nat, z < (j : Int) → 0 < j → j < m → Op.bytesLess (textOf (S j)) (textOf (S (j - 1))) = false) ∧ Hid (Below B w wr)) (fun i _ => (intOf i).toNat)
  case atStart => exact ⟨(m : Int) - 1, by omega, by omega, rfl, fun j h1 h2 h3 => by omega, B0⟩
  case round =>
    obtain ⟨z, hz1, hz2, rfl, hP, hBl⟩ := hrel
    by_cases c : 0 < z
    · obtain ⟨k, rfl⟩ : ∃ k : Nat, z = k := ⟨z.toNat, by omega⟩
      have t1 : decide ((k : Int) > 0) = true := decide_eq_true c
      have t2 : decide ((0 : Int) < (k : Int)) = true := decide_eq_true c
      have t3 : decide (0 < k) = true := decide_eq_true (by omega)
      have wk := IntWalk.i64_in ((k : Int) - 1) (by omega)
      have HC := Lib.hid (HL.out wr hBl.out k (k - 1) (by omega) (by omega))
      rw [show (((k - 1 : Nat)) : Int) = (k : Int) - 1 by omega] at HC
      have sB : B ≤ wr.heap.size := by have := hBl.out.size; have := HB.out; omega
      cases hq : Op.bytesLess (textOf (S k)) (textOf (S (k - 1))) with
      | true =>
        have V2 := Lib.hid (NO.out k (by omega) (by omega) hq)
        rw [hq] at HC
        clear hq
        go_wp2_with fail
        refine HC.out.mono ?_
        rintro e w5 ⟨rfl, b5⟩
        have B5 : Hid (Below B w w5) := hBl.out.trans (b5.mono sB)
        clear b5
        go_wp2
        go_ret
        exact ⟨by rw [V2.out]; rfl, by rw [HB.out]; exact B5.out⟩
      | false =>
        have P2 : Hid (∀ j : Nat, (k : Int) - 1 < (j : Int) → 0 < j → j < m → Op.bytesLess (textOf (S j)) (textOf (S (j - 1))) = false) := fun j h1 h2 h3 => by
          by_cases e : j = k
          · rw [e]; exact hq
          · exact hP.out j (by omega) h2 h3
        rw [hq] at HC
        clear hq
        go_wp2_with fail
        refine HC.out.mono ?_
        rintro e w5 ⟨rfl, b5⟩
        have B5 : Hid (Below B w w5) := hBl.out.trans (b5.mono sB)
        clear b5
        go_wp2
        go_roundw
        case rel => exact ⟨(k : Int) - 1, by omega, by omega, rfl, P2, B5⟩
        case measure => simp [intOf]; omega
    · have t1 : decide (z > 0) = false := decide_eq_false c
      have t2 : decide ((0 : Int) < z) = false := decide_eq_false c
      have V2 := Lib.hid (YES.out (fun j h1 h2 => hP.out j (by omega) h1 h2))
      go_wp2
      go_ret
      exact ⟨by rw [V2.out]; rfl, by rw [HB.out]; exact hBl.out⟩
end
end Go.Proofs.YtdhlnagkhkcoiaaDoor
