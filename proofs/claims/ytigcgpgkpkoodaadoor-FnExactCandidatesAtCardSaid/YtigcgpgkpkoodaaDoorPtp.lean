/- Partial squares out of rows: the program's partialSquareOf. -/
import Derived.Test.YtigcgpgkpkoodaaDoorPti
namespace Go.Proofs.YtigcgpgkpkoodaaDoor
open Go.RowKit Go.Shelf
set_option linter.unusedVariables false

theorem iptc (W : World) (x y : Nat) : Calls Tryd.prog 86 #[.int .i64 x, .int .i64 y] W fun e W' => e = .returned (.int .i64 (-1)) ∧ W' = W := by
  go_enter Tryd.func86, Tryd.ntmps86
  go_wp2
  go_ret
  exact ⟨rfl, rfl⟩

theorem pt_zero : Tryd.zeroCells96 = var 121 (pV 0 (fun _ _ => 0) (fun _ => 0) (fun _ => 0)) := by kernel_rfl
theorem fold_set : ∀ (xs : List Value) (k : Nat) (cs : Array Value) (i : Nat), k + xs.length ≤ cs.size → ((xs.zipIdx k).foldl (fun cs x => cs.setIfInBounds x.snd x.fst) cs)[i]? = if k ≤ i ∧ i < k + xs.length then xs[i - k]? else cs[i]?
  | [], k, cs, i, _ => by
    rw [if_neg (by rw [List.length_nil]; omega)]; rfl
  | x :: xs, k, cs, i, h => by
    rw [List.length_cons] at h
    rw [List.zipIdx_cons, List.foldl_cons, fold_set xs (k + 1) _ i (by simp; omega), List.length_cons]
    by_cases c : k + 1 ≤ i ∧ i < k + 1 + xs.length
    · rw [if_pos c, if_pos (by omega), show i - k = (i - (k + 1)) + 1 by omega, List.getElem?_cons_succ]
    · rw [if_neg c]
      by_cases e : i = k
      · subst e
        rw [if_pos (by omega), Nat.sub_self, List.getElem?_cons_zero, Array.getElem?_setIfInBounds, if_pos rfl, if_pos (by omega)]
      · rw [if_neg (by omega), Array.getElem?_setIfInBounds, if_neg (fun q => e q.symm)]
theorem pt_build (n : Nat) (G : Nat → Nat → Int) : Array.foldl (fun (cs : Array Value) (x : Value × Nat) => cs.setIfInBounds x.snd x.fst) Tryd.zeroCells96 (iar 101 (sqC n G)).zipIdx 0 (iar 101 (sqC n G)).size = var 121 (pV n G (fun _ => 0) (fun _ => 0)) := by
  have hs : (iar 101 (sqC n G)).size = ((iar 101 (sqC n G)).zipIdx).size := by simp
  rw [hs, ← Array.foldl_toList, Array.toList_zipIdx]
  have hl : (iar 101 (sqC n G)).toList.length = 101 := by rw [Array.length_toList, iar_size]
  apply Array.ext_getElem?
  intro i
  rw [pt_zero, fold_set _ 0 _ i (by rw [hl, var_size]; omega), hl]
  by_cases c : i < 101
  · rw [if_pos (by omega), Nat.sub_zero, Array.getElem?_toList, iar_get _ _ _ c, var_get _ _ _ (by omega)]
    unfold pV
    rw [if_pos c]
  · rw [if_neg (by omega)]
    by_cases d : i < 121
    · rw [var_get _ _ _ d, var_get _ _ _ d]
      unfold pV
      rw [if_neg c, if_neg c]
    · rw [Array.getElem?_eq_none (by rw [var_size]; omega), Array.getElem?_eq_none (by rw [var_size]; omega)]

theorem pt_build2 (n : Nat) (G : Nat → Nat → Int) : Array.foldl (fun (cs : Array Value) (x : Value × Nat) => cs.setIfInBounds x.snd x.fst) Tryd.zeroCells96 (iar 101 (sqC n G)).zipIdx 0 101 = var 121 (pV n G (fun _ => 0) (fun _ => 0)) := by
  have := pt_build n G
  rwa [iar_size] at this

set_option maxRecDepth 100000 in
set_option maxHeartbeats 8000000 in
theorem ipart (w : World) (v : Value) (xss : List (List Int)) (hv : RowsAt w v xss) :
    Calls Tryd.prog 78 #[v] w fun e w' => ∃ p, e = .returned (.tuple #[p, .bool (ptB xss)]) ∧ (ptB xss = true → ∃ g, p = .pointer (some ⟨g, 0, none⟩) ∧ w.heap.size ≤ g ∧ PtAt w' g xss.length (sqF xss.length (cellF xss))) ∧ Below w.heap.size w w' := by
  obtain ⟨a, cap, rfl, hk, hc⟩ := hv.cellsOf
  have hml := hv.1
  by_cases hn : 1 ≤ xss.length ∧ xss.length ≤ 10
  case neg =>
    have V := Lib.hid (ptB_false (xss := xss) (fun h => hn ⟨h.lo, h.hi⟩))
    obtain ⟨n, hn'⟩ : ∃ n, xss.length = n := ⟨_, rfl⟩
    rw [hn'] at hn hml ⊢
    by_cases c : n < 1
    · have t1 : decide ((n : Int) < 1) = true := decide_eq_true (by omega)
      have t1' : decide (n < 1) = true := decide_eq_true (by omega)
      clear hv hc hn hn'
      go_enter Tryd.func78, Tryd.ntmps78
      go_wp2
      go_ret2
      exact ⟨_, by rw [V.out]; rfl, (fun h => by rw [V.out] at h; cases h), Below.refl _ _⟩
    · have t1 : decide ((n : Int) < 1) = false := decide_eq_false (by omega)
      have t1' : decide (n < 1) = false := decide_eq_false (by omega)
      have t2 : decide ((10 : Int) < (n : Int)) = true := decide_eq_true (by omega)
      have t2' : decide (10 < n) = true := decide_eq_true (by omega)
      clear hv hc hn hn'
      go_enter Tryd.func78, Tryd.ntmps78
      go_wp2
      go_ret2
      exact ⟨_, by rw [V.out]; rfl, (fun h => by rw [V.out] at h; cases h), Below.refl _ _⟩
  obtain ⟨lo, hi⟩ := hn
  have HC := Lib.hid hc
  have NO1 : Hid (∀ x, x < xss.length → (xss.getD x []).length ≠ xss.length → ptB xss = false) := fun x hx h => ptB_false fun k => h (k.row x hx)
  have NO2 : Hid (∀ x y, x < xss.length → y < xss.length → cellF xss x y ≠ -1 → ¬ ((0 ≤ cellF xss x y ∧ cellF xss x y < xss.length) ∧ Cand xss.length (ptF xss.length (cellF xss) x y) x y (cellF xss x y)) → ptB xss = false) := fun x y hx hy h1 h2 => ptB_false fun k => no_part hx hy h1 h2 k.pf
  have YES : Hid ((∀ x, x < xss.length → (xss.getD x []).length = xss.length) → Good xss.length (cellF xss) xss.length 0 → ptB xss = true) := fun h1 h2 => ptB_true ⟨lo, hi, h1, h2.all⟩
  obtain ⟨V, hV⟩ : ∃ V, ptB xss = V := ⟨_, rfl⟩
  have HF0 := fun (x y : Nat) => show cellF xss x y = (xss.getD x []).getD y 0 from rfl
  obtain ⟨F, hF⟩ : ∃ F, cellF xss = F := ⟨_, rfl⟩
  simp only [hF] at HF0
  have HF1 := Lib.hid HF0
  obtain ⟨n, hn⟩ : ∃ n, xss.length = n := ⟨_, rfl⟩
  rw [hn] at lo hi HC hk hml ⊢
  simp only [hV, hF, hn] at NO1 NO2 YES
  rw [hV, hF]
  have t1 : decide ((n : Int) < 1) = false := decide_eq_false (by omega)
  have t1' : decide (n < 1) = false := decide_eq_false (by omega)
  have t2 : decide ((10 : Int) < (n : Int)) = false := decide_eq_false (by omega)
  have t2' : decide (10 < n) = false := decide_eq_false (by omega)
  have HF := Lib.hid (ifill2 n hi w (.func (.func 86) #[] #[]) (fun _ _ => -1)
    ⟨_, _, _, rfl, enters_of Tryd.func86 (by kernel_rfl) rfl, fun W x y hW hx hy => iptc W x y⟩)
  clear hv hc hn hV hF HF0
  go_enter Tryd.func78, Tryd.ntmps78
  go_wp2_with fail
  refine HF.out.mono ?_
  rintro e w1 ⟨rfl, b1⟩
  have isz := iar_size 101 (sqC n (sqF n fun _ _ => -1))
  go_wp2
  first | rw [pt_build] | rw [pt_build2]
  clear isz
  have b2 : Below w.heap.size w (w1.alloc (.cells (var 121 (pV n (sqF n fun _ _ => -1) (fun _ => 0) (fun _ => 0))) 96)) := b1.alloc b1.size _
  have P2 : PtV (w1.alloc (.cells (var 121 (pV n (sqF n fun _ _ => -1) (fun _ => 0) (fun _ => 0))) 96)) w1.heap.size n (sqF n fun _ _ => -1) (fun _ => 0) (fun _ => 0) := heap_alloc_new _ _
  have hgw : w.heap.size ≤ w1.heap.size := b1.size
  obtain ⟨w2, hw2⟩ : ∃ w2, w1.alloc (.cells (var 121 (pV n (sqF n fun _ _ => -1) (fun _ => 0) (fun _ => 0))) 96) = w2 := ⟨_, rfl⟩
  obtain ⟨g, hg⟩ : ∃ g, w1.heap.size = g := ⟨_, rfl⟩
  rw [hw2] at b2 P2 ⊢
  rw [hg] at P2 hgw ⊢
  obtain ⟨Y, hY⟩ : ∃ Y, var 121 (pV n (sqF n fun _ _ => -1) (fun _ => 0) (fun _ => 0)) = Y := ⟨_, rfl⟩
  rw [hY]
  have PT : Hid (PtAt w2 g n (ptF n F 0 0)) := by
    unfold Hid; rw [ptF_zero]; exact ⟨_, _, P2, RowB.empty n, ColB.empty n⟩
  have B2 := Lib.hid b2
  clear b1 b2 P2 hw2 hg hY HF
  go_loopw [25] (fun i wr => ∃ x : Nat, x ≤ n ∧ i = .int .i64 x ∧ Hid (∀ k, k < x → (xss.getD k []).length = n) ∧ Hid (Good n F x 0) ∧ Hid (PtAt wr g n (ptF n F x 0)) ∧ Hid (Below w.heap.size w wr)) (fun i _ => n - (intOf i).toNat)
  case atStart => exact ⟨0, by omega, rfl, fun k h => by omega, Good.zero n F, PT, B2⟩
  case round =>
    obtain ⟨x, hx, rfl, hO, hG, hP, hBl⟩ := hrel
    by_cases cx : x < n
    · have k1 : decide (x < n) = true := by simpa using cx
      have k1' : decide ((x : Int) < (n : Int)) = true := decide_eq_true (by omega)
      have wx := IntWalk.i64_in ((x : Int) + 1) (by omega)
      have x0 : (0 : Int) ≤ (x : Int) := by omega
      have x1 : (x : Int) < (n : Int) := by omega
      obtain ⟨g1, off, u, rfl, hg1, cj, hu⟩ := HC.out x cx
      obtain ⟨ua, uc, rfl⟩ := hu.shape
      have cj2 := (hBl.out.cell (p := ⟨g1, off + x, none⟩) hg1).trans cj
      have N1 := Lib.hid (NO1.out x cx)
      have hl63 := hu.1.1
      clear cj hg1
      by_cases el : (xss.getD x []).length = n
      · have e1 : ((n : Int) != (n : Int)) = false := by simp
        have e1' : (n != n) = false := by simp
        obtain ⟨a', c', e', K⟩ := hu.1.look el
        rw [el] at cj2 e'
        simp only [Value.slice.injEq] at e'
        obtain ⟨rfl, -, rfl⟩ := e'
        have HK := Lib.hid K
        have O2 : Hid (∀ k, k < x + 1 → (xss.getD k []).length = n) := fun k hk => by
          by_cases e : k = x
          · rw [e]; exact el
          · exact hO.out k (by omega)
        clear K hu el hl63 N1
        obtain ⟨wq, rfl⟩ : ∃ wq : World, wq = wr := ⟨_, rfl⟩
        go_wp2
        clear cj2
        go_loopw [36] (fun i wr => ∃ y : Nat, y ≤ n ∧ i = .int .i64 y ∧ Hid (Good n F x y) ∧ Hid (PtAt wr g n (ptF n F x y)) ∧ Hid (Below w.heap.size w wr)) (fun i _ => n - (intOf i).toNat)
        case atStart => exact ⟨0, by omega, rfl, hG, hP, hBl⟩
        case round =>
          obtain ⟨y, hy, rfl, hG2, hP2, hBl2⟩ := hrel
          by_cases cy : y < n
          · have k2 : decide (y < n) = true := by simpa using cy
            have k2' : decide ((y : Int) < (n : Int)) = true := decide_eq_true (by omega)
            have wy := IntWalk.i64_in ((y : Int) + 1) (by omega)
            have y0 : (0 : Int) ≤ (y : Int) := by omega
            have y1 : (y : Int) < (n : Int) := by omega
            obtain ⟨g2, off2, rfl, m1⟩ := HK.out wr hBl2.out y cy
            have N2 := Lib.hid (NO2.out x y cx cy)
            rw [← HF1.out] at m1
            obtain ⟨z, hz⟩ : ∃ z, F x y = z := ⟨_, rfl⟩
            have HZ := Lib.hid hz
            rw [hz] at m1 N2
            obtain ⟨r, c, P, R, C⟩ := hP2.out
            have r32 := (R x cx).1
            have c32 := (C y cy).1
            have CI := Lib.hid (canI_iff hi R C cx cy z)
            have here := ptF_here (n := n) (f := F) cx cy
            have HR := Lib.hid R
            have HCC := Lib.hid C
            have HH := Lib.hid here
            have plt := P.lt
            -- the cell
            have T3 : (wr.alloc (.cells #[.int .i64 x, .int .i64 y, .int .i64 z] 100)).heap[wr.heap.size]? = some (.cells #[.int .i64 x, .int .i64 y, .int .i64 z] 100 (0, 0)) := heap_alloc_new _ _
            have b3 : Below w.heap.size w (wr.alloc (.cells #[.int .i64 x, .int .i64 y, .int .i64 z] 100)) := hBl2.out.alloc hBl2.out.size _
            have P3 : PtV (wr.alloc (.cells #[.int .i64 x, .int .i64 y, .int .i64 z] 100)) g n (ptF n F x y) r c := (heap_alloc_old _ _ (by omega)).trans P
            have z3 : (wr.alloc (.cells #[.int .i64 x, .int .i64 y, .int .i64 z] 100)).heap.size = wr.heap.size + 1 := World.size_alloc _ _
            have HB3 := Lib.hid b3
            have HP3 := Lib.hid P3
            have HT3 := Lib.hid T3
            have HZ3 := Lib.hid z3
            have HPL := Lib.hid plt
            obtain ⟨c31, c32', c33⟩ := cell3 T3
            obtain ⟨q, hq⟩ : ∃ q, wr.heap.size = q := ⟨_, rfl⟩
            have HQ := Lib.hid hq
            rw [hq] at c31 c32' c33
            clear hz P R C here T3 b3 P3 z3 plt
            go_wp2_with fail
            obtain ⟨w3, hw3⟩ : ∃ w3, wr.alloc (.cells #[.int .i64 x, .int .i64 y, .int .i64 z] 100) = w3 := ⟨_, rfl⟩
            rw [hw3] at c31 c32' c33 HB3 HP3 HT3 HZ3 ⊢
            rw [HQ.out] at HT3 HZ3 HPL
            have HE := Lib.hid (iisEmpty x y z w3)
            clear hw3 hq
            by_cases ez : z = -1
            · -- an empty cell
              have tz : (z == -1) = true := by simp [ez]
              have G3 : Hid (Good n F x (y + 1)) := hG2.out.skip (by rw [HZ.out]; exact ez)
              have ES : Hid (ptF n F x (y + 1) = ptF n F x y) := ptF_skip (by rw [HZ.out]; exact ez)
              rw [tz] at HE
              clear ez tz
              refine HE.out.mono ?_
              rintro e w4 ⟨rfl, b4⟩
              have P4 : Hid (PtAt w4 g n (ptF n F x (y + 1))) := by
                unfold Hid; rw [ES.out]
                exact PtAt.below ⟨_, _, HP3.out, HR.out, HCC.out⟩ b4 (by have := HZ3.out; have := HPL.out; omega)
              have B4 := Lib.hid (t_chain HB3.out b4)
              clear b4
              go_wp2
              go_roundw
              case rel => exact ⟨y + 1, by omega, by go_num, G3, P4, B4⟩
              case measure => simp [intOf]; omega
            · have tz : (z == -1) = false := by simpa using ez
              rw [tz] at HE
              have NV := Lib.hid (fun h => N2.out ez h)
              clear tz ez
              refine HE.out.mono ?_
              rintro e w4 ⟨rfl, b4⟩
              have z4 : q + 1 ≤ w4.heap.size := by have := b4.size; have := HZ3.out; omega
              have T4 := (b4.block q (by have := HZ3.out; omega)).trans HT3.out
              have P4 := HP3.out.below b4 (by have := HZ3.out; have := HPL.out; omega)
              have B4 := Lib.hid (t_chain HB3.out b4)
              obtain ⟨c41, c42, c43⟩ := cell3 T4
              have HK4 := Lib.hid (ican n hi x y (by omega) (by omega) z _ r c w4 g P4 r32 c32)
              have HT4 := Lib.hid T4
              have HP4 := Lib.hid P4
              have HZ4 := Lib.hid z4
              clear b4 T4 P4 z4 HE c31 c32' c33
              obtain ⟨bb, hbb⟩ : ∃ bb, canI n (r x) (c y) z = bb := ⟨_, rfl⟩
              rw [hbb] at HK4 CI
              clear hbb
              cases bb with
              | false =>
                have V2 := Lib.hid (NV.out (fun h => by have := CI.out.2 h; cases this))
                go_wp2_with fail
                refine HK4.out.mono ?_
                rintro e w5 ⟨rfl, b5⟩
                have B5 := Lib.hid (t_chain B4.out b5)
                clear b5
                go_wp2
                go_ret2
                exact ⟨_, by rw [V2.out]; rfl, (fun h => by rw [V2.out] at h; cases h), B5.out⟩
              | true =>
                have k := CI.out.1 rfl
                obtain ⟨t, rfl⟩ : ∃ t : Nat, z = t := ⟨z.toNat, by omega⟩
                have t10 : t < 32 := by omega
                have G3 : Hid (Good n F x (y + 1)) := hG2.out.step cx cy (by rw [HZ.out]; exact k.1) (by rw [HZ.out]; exact k.2)
                have ES : Hid (upd2 (ptF n F x y) x y (t : Int) = ptF n F x (y + 1)) := by
                  have := ptF_step F cx cy
                  rwa [HZ.out] at this
                clear k
                go_wp2_with fail
                refine HK4.out.mono ?_
                rintro e w5 ⟨rfl, b5⟩
                have B5 := Lib.hid (t_chain B4.out b5)
                have T5 := (b5.block q (by have := HZ4.out; omega)).trans HT4.out
                have P5 := HP4.out.below b5 (by have := HZ4.out; have := HPL.out; omega)
                obtain ⟨c51, c52, c53⟩ := cell3 T5
                have HF5 := Lib.hid (ifillp n x y (by omega) (by omega) t t10 _ r c w5 g P5 r32 c32)
                clear b5 T5 P5 c41 c42 c43
                go_wp2_with fail
                refine HF5.out.mono ?_
                rintro e w6 ⟨rfl, P6, b6⟩
                have P7 : Hid (PtAt w6 g n (ptF n F x (y + 1))) := by
                  unfold Hid; rw [← ES.out]
                  exact ⟨_, _, P6, RowB.fill HR.out cy t10 HH.out, ColB.fill HCC.out cx t10 HH.out⟩
                have B6 : Hid (Below w.heap.size w w6) := B5.out.trans (b6.mono hgw)
                clear P6 b6
                go_wp2
                go_roundw
                case rel => exact ⟨y + 1, by omega, by go_num, G3, P7, B6⟩
                case measure => simp [intOf]; omega
          · have k2 : decide (y < n) = false := by simpa using cy
            have k2' : decide ((y : Int) < (n : Int)) = false := decide_eq_false (by omega)
            obtain rfl : y = n := by omega
            have G3 : Hid (Good y F (x + 1) 0) := hG2.out.row
            have P3 : Hid (PtAt wr g y (ptF y F (x + 1) 0)) := by unfold Hid; rw [← ptF_row]; exact hP2.out
            go_wp2
            go_roundw
            case rel => exact ⟨x + 1, by omega, by go_num, O2, G3, P3, hBl2⟩
            case measure => simp [intOf]; omega
      · have V2 := Lib.hid (N1.out el)
        obtain ⟨l, hl⟩ : ∃ l, (xss.getD x []).length = l := ⟨_, rfl⟩
        rw [hl] at el cj2 hl63
        have e1 : ((l : Int) != (n : Int)) = true := by simp; omega
        have e1' : (l != n) = true := by simp [el]
        clear hu el N1
        go_wp2
        go_ret2
        exact ⟨_, by rw [V2.out]; rfl, (fun h => by rw [V2.out] at h; cases h), hBl.out⟩
    · have k1 : decide (x < n) = false := by simpa using cx
      have k1' : decide ((x : Int) < (n : Int)) = false := decide_eq_false (by omega)
      obtain rfl : x = n := by omega
      have V2 := Lib.hid (YES.out hO.out hG.out)
      have PF : Hid (PtAt wr g x (sqF x F)) := by unfold Hid; rw [← ptF_all]; exact hP.out
      go_wp2
      go_ret2
      exact ⟨_, by rw [V2.out]; rfl, (fun _ => ⟨g, rfl, hgw, PF.out⟩), hBl.out⟩
end Go.Proofs.YtigcgpgkpkoodaaDoor
