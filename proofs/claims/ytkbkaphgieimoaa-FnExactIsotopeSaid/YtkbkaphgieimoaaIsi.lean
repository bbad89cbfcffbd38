/- Isotope: the program. -/
import Derived.Test.YtkbkaphgieimoaaIsf
namespace Go.Proofs.Ytkbkaphgieimoaa
open Go.RowKit Go.Shelf
set_option linter.unusedVariables false

/-- Three slices in a block of their own. -/
theorem rows3 {w : World} {g : Nat} {vr vc vs : Value} {rs cs ss : List Int} (h : w.heap[g]? = some (.cells #[vr, vc, vs] 25 (0, 0))) (i1 : IntsC w vr rs) (i2 : IntsC w vc cs) (i3 : IntsC w vs ss) : RowsAt w (.slice (some ⟨g, 0, none⟩) 3 3) [rs, cs, ss] := by
  refine ⟨by simp, some ⟨g, 0, none⟩, 3, rfl, by simp, fun j hj => ?_⟩
  rcases (show j = 0 ∨ j = 1 ∨ j = 2 by simp at hj; omega) with rfl | rfl | rfl
  · exact ⟨g, 0, vr, rfl, by rw [cell_of_row w g _ _ _ _ h]; rfl, i1⟩
  · exact ⟨g, 0, vc, rfl, by rw [cell_of_row w g _ _ _ _ h]; rfl, i2⟩
  · exact ⟨g, 0, vs, rfl, by rw [cell_of_row w g _ _ _ _ h]; rfl, i3⟩

set_option maxRecDepth 100000 in
set_option maxHeartbeats 8000000 in
theorem iIsotope (xss : List (List Int)) (rs cs ss : List Int) (hx : SmallLL xss) (h1 : SmallL rs) (h2 : SmallL cs) (h3 : SmallL ss) (w : World) (v vr vc vs : Value) (hv : RowsAt w v xss) (ir : IntsC w vr rs) (ic : IntsC w vc cs) (is : IntsC w vs ss) :
    Calls Try.prog 17 #[v, vr, vc, vs] w fun e w' => ∃ r, e = .returned (.tuple #[r, .int .i64 (Isotope_1 xss rs cs ss)]) ∧ RowsL w' w.heap.size w'.heap.size r (Isotope_0 xss rs cs ss) ∧ Below w.heap.size w w' := by
  have hmf : ∀ (fn : Fn) (first cap : Array Value) (w : World), (Instr.makeFunc fn first cap).run Try.prog w = .ok (.func fn first cap) w := fun _ _ _ _ => rfl
  obtain ⟨ra, rk, rfl⟩ := ir.shape
  obtain ⟨ca, ck, rfl⟩ := ic.shape
  obtain ⟨sa, sk, rfl⟩ := is.shape
  obtain ⟨vr, hvr⟩ : ∃ vr, Value.slice ra rs.length rk = vr := ⟨_, rfl⟩
  obtain ⟨vc, hvc⟩ : ∃ vc, Value.slice ca cs.length ck = vc := ⟨_, rfl⟩
  obtain ⟨vs, hvs⟩ : ∃ vs, Value.slice sa ss.length sk = vs := ⟨_, rfl⟩
  rw [hvr] at ir
  rw [hvc] at ic
  rw [hvs] at is
  obtain ⟨b, hb⟩ : ∃ b, w.heap.size = b := ⟨_, rfl⟩
  -- the boxes
  have z1 : (w.alloc (.cells #[vr] 25)).heap.size = b + 1 := by rw [World.size_alloc, hb]
  have q1 : (w.alloc (.cells #[vr] 25)).heap[b]? = some (.cells #[vr] 25 (0, 0)) := by rw [← hb]; exact heap_alloc_new _ _
  have b1 : Below b w (w.alloc (.cells #[vr] 25)) := (Below.refl _ _).alloc (by omega) _
  obtain ⟨w1, hw1⟩ : ∃ w1, w.alloc (.cells #[vr] 25) = w1 := ⟨_, rfl⟩
  rw [hw1] at z1 q1 b1
  have z2 : (w1.alloc (.cells #[vc] 25)).heap.size = b + 2 := by rw [World.size_alloc, z1]
  have q2 : (w1.alloc (.cells #[vc] 25)).heap[b]? = some (.cells #[vr] 25 (0, 0)) := (heap_alloc_old _ _ (by omega)).trans q1
  have p2 : (w1.alloc (.cells #[vc] 25)).heap[b + 1]? = some (.cells #[vc] 25 (0, 0)) := by rw [← z1]; exact heap_alloc_new _ _
  have b2 : Below b w (w1.alloc (.cells #[vc] 25)) := b1.alloc (by omega) _
  obtain ⟨w2, hw2⟩ : ∃ w2, w1.alloc (.cells #[vc] 25) = w2 := ⟨_, rfl⟩
  rw [hw2] at z2 q2 p2 b2
  have z3 : (w2.alloc (.cells #[vs] 25)).heap.size = b + 3 := by rw [World.size_alloc, z2]
  have q3 : (w2.alloc (.cells #[vs] 25)).heap[b]? = some (.cells #[vr] 25 (0, 0)) := (heap_alloc_old _ _ (by omega)).trans q2
  have p3 : (w2.alloc (.cells #[vs] 25)).heap[b + 1]? = some (.cells #[vc] 25 (0, 0)) := (heap_alloc_old _ _ (by omega)).trans p2
  have o3 : (w2.alloc (.cells #[vs] 25)).heap[b + 2]? = some (.cells #[vs] 25 (0, 0)) := by rw [← z2]; exact heap_alloc_new _ _
  have b3 : Below b w (w2.alloc (.cells #[vs] 25)) := b2.alloc (by omega) _
  obtain ⟨w3, hw3⟩ : ∃ w3, w2.alloc (.cells #[vs] 25) = w3 := ⟨_, rfl⟩
  rw [hw3] at z3 q3 p3 o3 b3
  have H0 := Lib.hid (ilsq w3 v xss (hv.below b3 (by omega)))
  have BX : Hid (∀ W, Below w3.heap.size w3 W → W.heap[b]? = some (.cells #[vr] 25 (0, 0)) ∧ W.heap[b + 1]? = some (.cells #[vc] 25 (0, 0)) ∧ W.heap[b + 2]? = some (.cells #[vs] 25 (0, 0))) := fun W hW =>
    ⟨(hW.block b (by omega)).trans q3, (hW.block (b + 1) (by omega)).trans p3, (hW.block (b + 2) (by omega)).trans o3⟩
  have II : Hid (∀ W, Below w3.heap.size w3 W → IntsC W vr rs ∧ IntsC W vc cs ∧ IntsC W vs ss) := fun W hW =>
    ⟨ir.below (b3.trans (hW.mono (by omega))) (by omega), ic.below (b3.trans (hW.mono (by omega))) (by omega), is.below (b3.trans (hW.mono (by omega))) (by omega)⟩
  have HB3 := Lib.hid b3
  have HB := Lib.hid hb
  have s3 : b + 3 ≤ w3.heap.size := by omega
  cases hp : sqB xss with
  | false =>
    have V := Lib.hid (Iso_bad (rs := rs) (cs := cs) (ss := ss) hp)
    rw [hp] at H0
    subst hvr; subst hvc; subst hvs
    clear hp hv ir ic is BX II q1 q2 p2 q3 p3 o3 b1 b2 b3
    go_enter Try.func17, Try.ntmps17
    go_wp2_with fail
    refine H0.out.mono ?_
    rintro e w4 ⟨m, f, rfl, -, b4⟩
    have st := stores_newSq w4 (sqC m f)
    have B5 : Hid (Below b w (w4.alloc (.cells (iar 101 (sqC m f)) 68))) := HB3.out.trans ((b4.alloc b4.size _).mono (by omega))
    have NL : Hid (RowsL (w4.alloc (.cells (iar 101 (sqC m f)) 68)) b (w4.alloc (.cells (iar 101 (sqC m f)) 68)).heap.size (.slice none 0 0) []) := RowsL.nil _ _ _ (Nat.le_refl _)
    clear b4
    go_wp2
    go_ret2
    exact ⟨_, by rw [V.out.2]; rfl, by rw [V.out.1, HB.out]; exact NL.out, by rw [HB.out]; exact B5.out⟩
  | true =>
    have S := of_sqB hp
    have VN := Lib.hid (fun k => Iso_no (rs := rs) (cs := cs) (ss := ss) hp k)
    have VY := Lib.hid (fun k => Iso_ok (rs := rs) (cs := cs) (ss := ss) hp k)
    rw [hp] at H0
    have nhi := S.hi
    have nlo := S.lo
    have CELL := Lib.hid (fun x y (hx : x < xss.length) (hy : y < xss.length) => S.cell hx hy)
    have MLT := Lib.hid (fun (k : isoOk xss.length rs cs ss = true) x y (hx : x < xss.length) (hy : y < xss.length) => isoMv_lt k hx hy)
    have IL : Hid (isoL xss rs cs ss = gridL xss.length xss.length (movSt xss.length (isoMv xss rs cs ss) xss.length)) := rfl
    have IO : Hid (isoOk xss.length rs cs ss = hpB xss.length [rs, cs, ss]) := rfl
    obtain ⟨n, hn⟩ : ∃ n, xss.length = n := ⟨_, rfl⟩
    rw [hn] at VN VY IL IO nhi nlo CELL MLT
    have HN := Lib.hid hn
    subst hvr; subst hvc; subst hvs
    clear hp hv ir ic is q1 q2 p2 q3 p3 o3 b1 b2 b3 S
    go_enter Try.func17, Try.ntmps17
    go_wp2_with fail
    refine H0.out.mono ?_
    rintro e w4 ⟨m, f, rfl, hmf2, b4⟩
    obtain ⟨rfl, rfl⟩ := hmf2 (by trivial)
    rw [HN.out]
    have s4 := b4.size
    obtain ⟨F, hF⟩ : ∃ F, sqF n (cellF xss) = F := ⟨_, rfl⟩
    rw [hF]
    have HF := Lib.hid hF
    have st := stores_newSq w4 (sqC n F)
    have b5 : Below w3.heap.size w3 (w4.alloc (.cells (iar 101 (sqC n F)) 68)) := b4.alloc s4 _
    have A5 : SqAt (w4.alloc (.cells (iar 101 (sqC n F)) 68)) w4.heap.size n F := heap_alloc_new _ _
    have z5 : (w4.alloc (.cells (iar 101 (sqC n F)) 68)).heap.size = w4.heap.size + 1 := World.size_alloc _ _
    obtain ⟨w5, hw5⟩ : ∃ w5, w4.alloc (.cells (iar 101 (sqC n F)) 68) = w5 := ⟨_, rfl⟩
    obtain ⟨g, hg⟩ : ∃ g, w4.heap.size = g := ⟨_, rfl⟩
    rw [hw5] at st b5 A5 z5
    rw [hg] at st A5 z5 s4
    obtain ⟨t1, t2, t3⟩ := BX.out w5 b5
    have c1 : w5.cell? ⟨b, 0, none⟩ = some (.slice ra rs.length rk) := by rw [cell_of_row w5 b 0 _ _ _ t1]; rfl
    have c2 : w5.cell? ⟨b + 1, 0, none⟩ = some (.slice ca cs.length ck) := by rw [cell_of_row w5 (b + 1) 0 _ _ _ t2]; rfl
    have c3 : w5.cell? ⟨b + 2, 0, none⟩ = some (.slice sa ss.length sk) := by rw [cell_of_row w5 (b + 2) 0 _ _ _ t3]; rfl
    have or5 := SqAt.order A5
    have z6 : (w5.alloc (.cells #[.slice ra rs.length rk, .slice ca cs.length ck, .slice sa ss.length sk] 25)).heap.size = g + 2 := by rw [World.size_alloc, z5]
    have b6 : Below w3.heap.size w3 (w5.alloc (.cells #[.slice ra rs.length rk, .slice ca cs.length ck, .slice sa ss.length sk] 25)) := b5.alloc (by omega) _
    have A6 : SqAt (w5.alloc (.cells #[.slice ra rs.length rk, .slice ca cs.length ck, .slice sa ss.length sk] 25)) g n F := (heap_alloc_old _ _ (by omega)).trans A5
    have L6 : (w5.alloc (.cells #[.slice ra rs.length rk, .slice ca cs.length ck, .slice sa ss.length sk] 25)).heap[g + 1]? = some (.cells #[.slice ra rs.length rk, .slice ca cs.length ck, .slice sa ss.length sk] 25 (0, 0)) := by rw [← z5]; exact heap_alloc_new _ _
    obtain ⟨w6, hw6⟩ : ∃ w6, w5.alloc (.cells #[.slice ra rs.length rk, .slice ca cs.length ck, .slice sa ss.length sk] 25) = w6 := ⟨_, rfl⟩
    rw [hw6] at z6 b6 A6 L6
    obtain ⟨j1, j2, j3⟩ := II.out w6 b6
    have HP := Lib.hid (ihp n (by omega) w6 _ _ (rows3 L6 j1 j2 j3))
    rw [← IO.out] at HP
    have B6 := Lib.hid b6
    have X6 := Lib.hid A6
    obtain ⟨ok, hok⟩ : ∃ ok, isoOk n rs cs ss = ok := ⟨_, rfl⟩
    rw [hok] at HP
    clear b4 A5 b5 t1 t2 t3 b6 A6 L6 j1 j2 j3 hF H0
    cases ok with
    | false =>
      have V := Lib.hid (VN.out hok)
      clear hok VN VY
      go_wp2_with fail
      refine HP.out.mono ?_
      rintro e w7 ⟨rfl, b7⟩
      have B7 : Hid (Below b w w7) := HB3.out.trans ((B6.out.trans (b7.mono (by omega))).mono (by omega))
      have NL : Hid (RowsL w7 b w7.heap.size (.slice none 0 0) []) := RowsL.nil _ _ _ (Nat.le_refl _)
      clear b7
      go_wp2
      go_ret2
      exact ⟨_, by rw [V.out.2]; rfl, by rw [V.out.1, HB.out]; exact NL.out, by rw [HB.out]; exact B7.out⟩
    | true =>
      have V := Lib.hid (VY.out hok)
      have ML := Lib.hid (MLT.out hok)
      have OKP := Lib.hid (isoOk_parts hok)
      clear hok VN VY MLT
      go_wp2_with fail
      refine HP.out.mono ?_
      rintro e w7 ⟨rfl, b7⟩
      have s7 := b7.size
      have B7 : Hid (Below w3.heap.size w3 w7) := B6.out.trans (b7.mono (by omega))
      have X7 := Lib.hid (SqAt.below X6.out b7 (by omega))
      have HM := Lib.hid (imoved n nhi w7 F (.func (.func 63) #[] #[.pointer (some ⟨b, 0, none⟩), .pointer (some ⟨b + 1, 0, none⟩), .pointer (some ⟨b + 2, 0, none⟩)]) (isoMv xss rs cs ss) (fun x y hx hy => ML.out x y hx hy)
        ⟨_, _, _, rfl, enters_of Try.func63 (by kernel_rfl) rfl, fun W x y hW hx hy => by
          have bW : Below w3.heap.size w3 W := B7.out.trans (hW.mono (by omega))
          obtain ⟨t1, t2, t3⟩ := BX.out W bW
          obtain ⟨j1, j2, j3⟩ := II.out W bW
          obtain ⟨u1, u2⟩ := CELL.out x y hx hy
          have eF : F x y = cellF xss x y := by rw [← HF.out]; exact sqF_in _ hx hy
          obtain ⟨u, hu⟩ : ∃ u : Nat, cellF xss x y = u := ⟨(cellF xss x y).toNat, by omega⟩
          have e1 := pm_mem OKP.out.1.1 OKP.out.1.2 hx
          have e2 := pm_mem OKP.out.2.1.1 OKP.out.2.1.2 hy
          have r1 : (((isoMv xss rs cs ss x y).1 : Nat) : Int) = rs.getD x 0 := by unfold isoMv; simp only; omega
          have r2 : (((isoMv xss rs cs ss x y).2.1 : Nat) : Int) = cs.getD y 0 := by unfold isoMv; simp only; omega
          have r3 : (isoMv xss rs cs ss x y).2.2 = ss.getD u 0 := by unfold isoMv; simp only; rw [hu, Int.toNat_natCast]
          rw [r1, r2, r3, eF, hu]
          exact iisoclo W b (b + 1) (b + 2) n _ _ _ rs cs ss (by rw [cell_of_row W b 0 _ _ _ t1]; rfl) (by rw [cell_of_row W (b + 1) 0 _ _ _ t2]; rfl) (by rw [cell_of_row W (b + 2) 0 _ _ _ t3]; rfl) j1.1 j2.1 j3.1 OKP.out.1.1 OKP.out.2.1.1 OKP.out.2.2.1 nhi x y u hx hy (by omega)⟩)
      clear b7 HP X6
      go_wp2_with (refine wpList_load_row rfl 68 (.tmp 10) rfl _ rfl _ _ _ _ X7.out Try.underlying68 rfl (by rw [iar_size]; exact Try.infoSq) ?_)
      refine HM.out.mono ?_
      rintro e w8 ⟨rfl, b8⟩
      have s8 := b8.size
      have B8 : Hid (Below w3.heap.size w3 w8) := B7.out.trans (b8.mono (by omega))
      have HR := Lib.hid (irows2 n nhi w8 (movSt n (isoMv xss rs cs ss) n))
      clear b8 HM X7
      go_wp2_with fail
      refine HR.out.mono ?_
      rintro e w9 ⟨r, rfl, r9, b9⟩
      have s9 := b9.size
      have R9 := Lib.hid (r9.mono (B' := b) (by omega) (Nat.le_refl _) (Nat.le_refl _))
      have B9 : Hid (Below b w w9) := HB3.out.trans ((B8.out.trans (b9.mono (by omega))).mono (by omega))
      rw [← IL.out] at R9
      clear r9 b9
      go_wp2
      go_ret2
      exact ⟨_, by rw [V.out.2]; rfl, by rw [V.out.1, HB.out]; exact R9.out, by rw [HB.out]; exact B9.out⟩
end Go.Proofs.Ytkbkaphgieimoaa
