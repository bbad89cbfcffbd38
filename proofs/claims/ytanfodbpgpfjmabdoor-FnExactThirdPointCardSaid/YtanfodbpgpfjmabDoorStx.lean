/- The text of a set; which of two sets comes before; whether a list of sets is in order (sort.SliceIsSorted). -/
import Derived.Test.YtanfodbpgpfjmabDoorU3
import Derived.Test.YtanfodbpgpfjmabDoorDm
import Derived.StillTailTactics
import Derived.Lib.ReflectliteSlice
import Derived.Laws.Externs
import Derived.BigCall
import Derived.Maps.AppendAt
import Derived.Deep.Cut
namespace Go.Proofs.YtanfodbpgpfjmabDoor
open Go.RowKit Go.Shelf
set_option linter.unusedVariables false

theorem bytes_snoc (xs : List Int) (x : Int) : bytesOf (xs ++ [x]) = bytesOf xs ++ [UInt8.ofNat x.toNat] := by simp [bytesOf]

/-- Bytes of the call's own, in block B or in one from N on; all other blocks below N are as in w2. -/
def TxO (B N : Nat) (w2 wr : World) (v : Value) (L : List UInt8) : Prop :=
  Byt wr B v L ∧ (∀ k, v.ownBlock = some k → k = B ∨ N ≤ k) ∧ (∀ k, k ≠ B → k < N → wr.heap[k]? = w2.heap[k]?) ∧ N ≤ wr.heap.size ∧ Below B w2 wr
theorem wpList_pushTx {ops : Array Oper} {rest : List Oper} {o : Oper} {a : Act} {Q : Exit → Act → World → Prop} (w : World) (hgd : o.guard = none) (s x : Operand)
    (ho : o.op = .call { callee := .builtin .append, args := #[s, x], argTypes := #[132, 132] })
    (B N : Nat) (w2 : World) (v : Value) (L : List UInt8) (hs : a.eval s = v) (h : TxO B N w2 w v L) (y : UInt8) (z : Int) (hz : (y.toNat : Int) = z) (T : TypeId) (hx : a.eval x = .slice (some ⟨w.heap.size, 0, none⟩) 1 1)
    (hl : L.length < 1000000000000) (hB : B < N)
    (hK : ∀ v' w', TxO B N w2 w' v' (L ++ [y]) → wpList Tryd.prog ops Q rest (a.put o.dst v') w') :
    wpList Tryd.prog ops Q (o :: rest) a (w.alloc (.cells #[.int .u8 z] T)) := by
  obtain ⟨i0, hi, hz0, hz1, hz2⟩ := info_parts Tryd.infoU8
  subst hz
  obtain ⟨h1, h2, h3, h4, h5⟩ := h
  refine wpList_append_own_at _ hgd s x 132 ho B 5 i0 (.int .u8 0) 1 1 Tryd.underlying132 hi hz0 hz1 hz2 rfl (by decide) v L.length _ hs (World.ownsRow.alloc h1 _) ⟨w.heap.size, 0, none⟩ 1 1 [.int .u8 (y.toNat : Int)] hx rfl ?c1 ?c2 ?c3 ?c4 ?c5 ?_
  case c1 =>
    intro j u hj
    match j, hj with
    | 0, hj => simp at hj; subst hj; simp [Addr.add]
  case c2 => intro u hu; simp at hu; subst hu; rfl
  case c3 => unfold maxLen; omega
  case c4 => omega
  case c5 => simp; omega
  intro v' w' h' hg _ hat
  have sz : w.heap.size + 1 ≤ w'.heap.size := by have := hg.size; simpa only [World.size_alloc] using this
  refine hK v' w' ⟨?_, fun k hk => ?_, fun k k1 k2 => ?_, by omega, ?_⟩
  · unfold Byt
    rw [List.length_append, List.map_append]
    exact h'
  · rcases hat with e | e
    · exact h2 k (by rw [← e]; exact hk)
    · rw [hk] at e
      simp only [World.size_alloc, Option.some.injEq] at e
      omega
  · rw [hg.block k (by simp only [World.size_alloc]; omega) (fun e => by have := h2 k e.symm; omega), Below.heap_alloc _ _ _ (by omega)]
    exact h3 k k1 k2
  · exact h5.trans (((Below.refl w.heap.size w).alloc (Nat.le_refl _) _).mono (by omega) |>.grown hg (by simp; omega) (fun k hk => (World.ownsRow.lt h1 k hk).1))

set_option maxRecDepth 100000 in
set_option maxHeartbeats 1000000 in
theorem iText (x : Nat) (w : World) (hx : x < 4294967296) (ht : Tab w) :
    Calls Tryd.prog 92 #[.int .u32 x] w fun e w' => e = .returned (.string ⟨(textOf x).toArray⟩) ∧ Below w.heap.size w w' := by
  obtain ⟨B, hB⟩ : ∃ B, w.heap.size = B := ⟨_, rfl⟩
  have hpos : 0 < B := by rw [← hB]; exact ht.pos
  have hmk : ∀ W : World, (Instr.makeSlice 132 (.int .i64 0) (.int .i64 32)).run Tryd.prog W = .ok (.slice (some ⟨W.heap.size, 0, none⟩) 0 32) (W.alloc (.cells (madeCells #[.int .u8 0] 32) 5)) := fun W : World => run_make_room (P := Tryd.prog) 132 5 (.int .u8 0) 1 Tryd.underlying132 Tryd.infoU8 rfl .i64 .i64 32 (by decide) (by decide) W
  obtain ⟨w1, hw1⟩ : ∃ w1, w.alloc (.cells (madeCells #[.int .u8 0] 32) 5) = w1 := ⟨_, rfl⟩
  have b1 : Below B w w1 := by rw [← hw1]; exact (Below.refl _ _).alloc (by omega) _
  have z1 : w1.heap.size = B + 1 := by rw [← hw1, World.size_alloc, hB]
  have HI : Hid (Byt w1 B (.slice (some ⟨B, 0, none⟩) 0 32) (bytesOf [])) := by
    unfold Hid
    rw [← hw1, ← hB]
    exact World.ownsRow_made w _ 32 (Nat.le_refl _) (by decide) (by rw [size_madeCells])
  have HP := Lib.hid (ipoints x w1 hx (ht.below b1 hpos))
  have HB := Lib.hid b1
  have HWB := Lib.hid hB
  have TX : Hid (textOf x = bytesOf (fls 32 (fun k => x.testBit k))) := rfl
  have FR := Lib.hid (fls_range (q := 32) (P := fun k => x.testBit k) (Nat.le_refl _))
  have FL := fls_len 32 (fun k => x.testBit k)
  obtain ⟨xs, hxs⟩ : ∃ xs, fls 32 (fun k => x.testBit k) = xs := ⟨_, rfl⟩
  rw [hxs] at HP TX FR FL
  rw [z1] at HP
  rw [TX.out]
  clear ht b1 hxs TX hx
  go_enter Tryd.func92, Tryd.ntmps92
  go_wp2_with fail
  refine HP.out.mono ?_
  rintro e w2 ⟨v, rfl, i2, b2⟩
  have B2 : Hid (Below B w w2) := HB.out.trans (b2.mono (by omega))
  have z2 : B < w2.heap.size := by have := b2.size; omega
  have I2 : Hid (TxO B w2.heap.size w2 w2 (.slice (some ⟨B, 0, none⟩) 0 32) (bytesOf (xs.take 0))) := by
    refine ⟨?_, fun k hk => ?_, fun _ _ _ => rfl, Nat.le_refl _, Below.refl _ _⟩
    · have := World.ownsRow.kept (row := none) HI.out ⟨b2.os, b2.tape, b2.output, b2.size, fun k hk _ => b2.block k (by omega)⟩ (by simp [Value.ownBlock])
      simpa [Byt, bytesOf] using this
    · simp [Value.ownBlock] at hk; exact .inl hk.symm
  obtain ⟨m, hm⟩ : ∃ m, xs.length = m := ⟨_, rfl⟩
  have HC : Hid (∀ W : World, (∀ k, k ≠ B → k < w2.heap.size → W.heap[k]? = w2.heap[k]?) → ∀ a cap, v = .slice a m cap → ∀ j, j < m → ∃ g off, a = some ⟨g, off, none⟩ ∧ W.cell? ⟨g, off + j, none⟩ = some (.int .i64 (xs.getD j 0))) := fun W hW a cap e j hj => by
    subst e
    have lt := World.ownsRow.lt i2
    obtain ⟨a', cap', e, -, hc⟩ := i2.at.shape
    simp only [Value.slice.injEq] at e
    obtain ⟨rfl, -, -⟩ := e
    obtain ⟨g, off, rfl, k⟩ := hc j (by omega)
    have l := lt g rfl
    refine ⟨g, off, rfl, ?_⟩
    rw [← k]
    unfold World.cell?
    rw [hW g (by omega) l.2]
  obtain ⟨a, cap, rfl, -, -⟩ := i2.at.shape
  have TK : Hid (∀ j, j < m → bytesOf (xs.take (j + 1)) = bytesOf (xs.take j) ++ [UInt8.ofNat (xs.getD j 0).toNat]) := fun j hj => by
    rw [take_getD (by omega), bytes_snoc]
  have BD : Hid (∀ j, j < m → 0 ≤ xs.getD j 0 ∧ xs.getD j 0 ≤ 31) := fun j hj => FR.out _ (by rw [List.getD_eq_getElem?_getD, List.getElem?_eq_getElem (by omega)]; exact List.getElem_mem _)
  have ED : Hid (bytesOf (xs.take m) = bytesOf xs) := by rw [← hm, List.take_length]; rfl
  have LE : Hid (∀ j, (bytesOf (xs.take j)).length ≤ 32) := fun j => by unfold bytesOf; rw [List.length_map, List.length_take]; omega
  rw [hm] at HC FL ⊢
  clear i2 b2 hm hmk hw1 HI HP FR
  go_wp2
  go_loopw [3, 10] (fun tv i wr => ∃ j : Nat, j ≤ m ∧ i = .int .i64 j ∧ Hid (TxO B w2.heap.size w2 wr tv (bytesOf (xs.take j)))) (fun _ i _ => m - (intOf i).toNat)
  case atStart => exact ⟨0, by omega, rfl, I2⟩
  case round =>
    obtain ⟨j, hj, rfl, hT⟩ := hrel
    by_cases c : j < m
    · have k1 : decide (j < m) = true := by simpa using c
      have k1' : decide ((j : Int) < (m : Int)) = true := decide_eq_true (by omega)
      have w3 := IntWalk.i64_in ((j : Int) + 1) (by omega)
      obtain ⟨b0, b31⟩ := BD.out j c
      obtain ⟨g, off, ha, cj⟩ := HC.out wr hT.out.2.2.1 _ _ rfl j c
      subst ha
      have TJ := Lib.hid (TK.out j c)
      obtain ⟨t, ht⟩ : ∃ t : Nat, xs.getD j 0 = t := ⟨(xs.getD j 0).toNat, by omega⟩
      rw [ht] at cj b0 b31 TJ
      rw [Int.toNat_natCast] at TJ
      have q : (UInt8.ofNat t).toNat = t := by rw [UInt8.toNat_ofNat']; omega
      have wq : IntKind.u8.wrap (t : Int) = (t : Int) := by rw [IntKind.wrap_u8]; omega
      have QQ : Hid (((UInt8.ofNat t).toNat : Int) = (t : Int)) := by unfold Hid; rw [q]
      have j0 : (0 : Int) ≤ (j : Int) := by omega
      have j1 : (j : Int) < (m : Int) := by omega
      have LJ := LE.out j
      have ln : (bytesOf (xs.take j)).length < 1000000000000 := by omega
      clear ht q LJ
      go_wp2_with (at_builtin; refine wpList_pushTx wr (by rfl) _ _ (by rfl) B w2.heap.size w2 _ _ (by rfl) hT.out (UInt8.ofNat t) _ QQ.out _ (by rfl) ln z2 ?_; intro v' w5 hn; have HN := Lib.hid hn; clear hn)
      go_roundw
      case rel => exact ⟨j + 1, by omega, by go_num, by rw [TJ.out]; exact HN⟩
      case measure => simp [intOf]; omega
    · have k1 : decide (j < m) = false := by simpa using c
      have k1' : decide ((j : Int) < (m : Int)) = false := decide_eq_false (by omega)
      obtain rfl : j = m := by omega
      have TE := hT.out.1.text
      rw [ED.out] at TE
      have BB : Hid (Below B w wr) := B2.out.trans hT.out.2.2.2.2
      go_wp2
      go_ret
      exact ⟨rfl, by rw [HWB.out]; exact BB.out⟩
end Go.Proofs.YtanfodbpgpfjmabDoor
