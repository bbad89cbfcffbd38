/- FillCell: the program. -/
import Derived.Test.YtaipgfahkpnooaaFc
namespace Go.Proofs.Ytaipgfahkpnooaa
open Go.RowKit Go.Shelf
set_option linter.unusedVariables false

theorem PtV.range {w : World} {g n : Nat} {G : Nat → Nat → Int} {r c : Nat → Nat} (h : PtV w g n G r c) : w.rangeAt g 0 (iar 101 (sqC n G)).toList := by
  have := World.rangeAt_of_block h 0 101
  have e : (var 121 (pV n G r c)).extract 0 101 = iar 101 (sqC n G) := by
    apply Array.ext_getElem?
    intro i
    rw [Array.getElem?_extract]
    by_cases c : i < 101
    · rw [if_pos (by rw [var_size]; omega), Nat.zero_add, var_get _ _ _ (by omega), iar_get _ _ _ c]
      unfold pV
      rw [if_pos c]
    · rw [if_neg (by rw [var_size]; omega), Array.getElem?_eq_none (by rw [iar_size]; omega)]
  rwa [Nat.zero_add, e] at this

set_option maxRecDepth 100000 in
set_option maxHeartbeats 8000000 in
theorem iepo (xss : List (List Int)) (a b : Int) (w : World) (v : Value) (hv : RowsAt w v xss) :
    Calls Try.prog 40 #[v, .int .i64 a, .int .i64 b] w fun e w' => ∃ p, e = .returned (.tuple #[p, .int .i64 (cdC xss a b)]) ∧ (cdC xss a b = 0 → ∃ g, p = .pointer (some ⟨g, 0, none⟩) ∧ w.heap.size ≤ g ∧ PtAt w' g xss.length (sqF xss.length (cellF xss))) ∧ Below w.heap.size w w' := by
  have HP := Lib.hid (ipart w v xss hv)
  cases hp : ptB xss with
  | false =>
    have V := Lib.hid (cdC_bad (a := a) (b := b) hp)
    rw [hp] at HP
    clear hp hv
    go_enter Try.func40, Try.ntmps40
    go_wp2_with fail
    refine HP.out.mono ?_
    rintro e w1 ⟨p, rfl, -, b1⟩
    have B1 := Lib.hid b1
    clear b1
    go_wp2
    go_ret2
    exact ⟨_, by rw [V.out]; rfl, (fun h => by rw [V.out] at h; cases h), B1.out⟩
  | true =>
    have VO := Lib.hid (fun k => cdC_out (a := a) (b := b) hp k)
    have VF := Lib.hid (fun k q => cdC_full (a := a) (b := b) hp k q)
    have VK := Lib.hid (fun k q => cdC_ok (a := a) (b := b) hp k q)
    have S := of_ptB hp
    rw [hp] at HP
    have nhi := S.hi
    have nlo := S.lo
    have SC := Lib.hid S.pf.cell
    obtain ⟨n, hn⟩ : ∃ n, xss.length = n := ⟨_, rfl⟩
    rw [hn] at HP VO VF VK nhi nlo SC ⊢
    obtain ⟨F, hF⟩ : ∃ F, cellF xss = F := ⟨_, rfl⟩
    rw [hF] at HP VF VK SC ⊢
    obtain ⟨q, hq⟩ : ∃ q, cdC xss a b = q := ⟨_, rfl⟩
    rw [hq] at VO VF VK ⊢
    clear hp hv S hn hF hq
    go_enter Try.func40, Try.ntmps40
    go_wp2_with fail
    refine HP.out.mono ?_
    rintro e w1 ⟨p, rfl, hP, b1⟩
    obtain ⟨g, rfl, hg, r, c, P, R, C⟩ := hP (by trivial)
    have m0 := P.order
    have B1 := Lib.hid b1
    have HP1 := Lib.hid P
    have HPT : Hid (PtAt w1 g n (sqF n F)) := ⟨r, c, P, R, C⟩
    clear hP b1 R C
    by_cases k : In2 n a b
    case neg =>
      have V := Lib.hid (VO.out k)
      unfold In2 at k
      clear VO VF VK P
      by_cases c1 : a < 0
      · have t1 : decide (0 ≤ a) = false := decide_eq_false (by omega)
        clear k c1
        go_wp2
        go_ret2
        exact ⟨_, by rw [V.out]; rfl, (fun h => by rw [V.out] at h; cases h), B1.out⟩
      · have t1 : decide (0 ≤ a) = true := decide_eq_true (by omega)
        by_cases c2 : (n : Int) ≤ a
        · have t2 : decide (a < (n : Int)) = false := decide_eq_false (by omega)
          clear k c1 c2
          go_wp2
          go_ret2
          exact ⟨_, by rw [V.out]; rfl, (fun h => by rw [V.out] at h; cases h), B1.out⟩
        · have t2 : decide (a < (n : Int)) = true := decide_eq_true (by omega)
          by_cases c3 : b < 0
          · have t3 : decide (0 ≤ b) = false := decide_eq_false (by omega)
            clear k c1 c2 c3
            go_wp2
            go_ret2
            exact ⟨_, by rw [V.out]; rfl, (fun h => by rw [V.out] at h; cases h), B1.out⟩
          · have t3 : decide (0 ≤ b) = true := decide_eq_true (by omega)
            have t4 : decide (b < (n : Int)) = false := decide_eq_false (by omega)
            clear k c1 c2 c3
            go_wp2
            go_ret2
            exact ⟨_, by rw [V.out]; rfl, (fun h => by rw [V.out] at h; cases h), B1.out⟩
    have VF2 := Lib.hid (VF.out k)
    have VK2 := Lib.hid (VK.out k)
    unfold In2 at k
    obtain ⟨⟨a0, a1⟩, b0, b1⟩ := k
    obtain ⟨A, rfl⟩ : ∃ A : Nat, a = A := ⟨a.toNat, by omega⟩
    obtain ⟨D, rfl⟩ : ∃ D : Nat, b = D := ⟨b.toNat, by omega⟩
    rw [Int.toNat_natCast, Int.toNat_natCast] at VF2 VK2
    have A1 : A < n := by omega
    have D1 : D < n := by omega
    have m1 := P.sym (x := A) (y := D) (by omega) (by omega)
    rw [sqF_in _ A1 D1] at m1
    have sc := SC.out A D A1 D1
    have t1 : decide (0 ≤ (A : Int)) = true := decide_eq_true (by omega)
    have t2 : decide ((A : Int) < (n : Int)) = true := decide_eq_true (by omega)
    have t2' : decide (A < n) = true := decide_eq_true A1
    have t3 : decide (0 ≤ (D : Int)) = true := decide_eq_true (by omega)
    have t4 : decide ((D : Int) < (n : Int)) = true := decide_eq_true (by omega)
    have t4' : decide (D < n) = true := decide_eq_true D1
    have A10 : (A : Int) < 10 := by omega
    have D10 : (D : Int) < 10 := by omega
    obtain ⟨u, hu⟩ : ∃ u, F A D = u := ⟨_, rfl⟩
    rw [hu] at m1 sc VF2 VK2
    clear VO VF VK P a1 b1 hu SC
    by_cases h : 0 ≤ u
    · have V := Lib.hid (VF2.out h)
      have tu : (u != -1) = true := by simp; omega
      clear VF2 VK2 h sc
      go_wp2
      go_ret2
      exact ⟨_, by rw [V.out]; rfl, (fun h => by rw [V.out] at h; cases h), B1.out⟩
    · have V := Lib.hid (VK2.out (by first | exact h | omega))
      have tu : (u != -1) = false := by simp; omega
      clear VF2 VK2 h sc
      go_wp2
      go_ret2
      exact ⟨_, by rw [V.out]; rfl, (fun _ => ⟨g, rfl, hg, HPT.out⟩), B1.out⟩

set_option maxRecDepth 100000 in
set_option maxHeartbeats 8000000 in
theorem iFillCell (xss : List (List Int)) (a b s : Int) (hx : SmallLL xss) (ha : I64 a) (hb : I64 b) (hs : I64 s) (w : World) (v : Value) (hv : RowsAt w v xss) :
    Calls Try.prog 24 #[v, .int .i64 a, .int .i64 b, .int .i64 s] w fun e w' => ∃ r, e = .returned (.tuple #[r, .int .i64 (FillCell_1 xss a b s)]) ∧ RowsL w' w.heap.size w'.heap.size r (FillCell_0 xss a b s) ∧ Below w.heap.size w w' := by
  have HE := Lib.hid (iepo xss a b w v hv)
  by_cases hz : cdC xss a b = 0
  case neg =>
    have V := Lib.hid (Fil_no (s := s) hz)
    obtain ⟨q, hq⟩ : ∃ q, cdC xss a b = q := ⟨_, rfl⟩
    rw [hq] at HE V hz
    have t1 : (q != 0) = true := by simpa using hz
    clear hv hx hq hz
    go_enter Try.func24, Try.ntmps24
    go_wp2_with fail
    refine HE.out.mono ?_
    rintro e w1 ⟨r, rfl, -, b1⟩
    have B1 := Lib.hid b1
    have NL : Hid (RowsL w1 w.heap.size w1.heap.size (.slice none 0 0) []) := RowsL.nil _ _ _ (Nat.le_refl _)
    clear b1
    go_wp2
    go_ret2
    exact ⟨_, by rw [V.out.2]; rfl, by rw [V.out.1]; exact NL.out, B1.out⟩
  have VB := Lib.hid (fun k => Fil_bad (s := s) hz k)
  have VK := Lib.hid (fun k => Fil_ok (s := s) hz k)
  obtain ⟨hp, hI, hh⟩ := cdC_zero hz
  have S := of_ptB hp
  have nhi := S.hi
  have nlo := S.lo
  have hcell := S.pf.cell
  rw [hz] at HE
  have HB : Hid (filB xss a b s = canB xss.length (cellF xss) a.toNat b.toNat s) := rfl
  obtain ⟨n, hn⟩ : ∃ n, xss.length = n := ⟨_, rfl⟩
  rw [hn] at HE VK nhi nlo HB hI hcell
  unfold In2 at hI
  obtain ⟨⟨a0, a1⟩, b0, b1⟩ := hI
  obtain ⟨A, rfl⟩ : ∃ A : Nat, a = A := ⟨a.toNat, by omega⟩
  obtain ⟨D, rfl⟩ : ∃ D : Nat, b = D := ⟨b.toNat, by omega⟩
  rw [Int.toNat_natCast, Int.toNat_natCast] at VK HB hh
  have A1 : A < n := by omega
  have D1 : D < n := by omega
  obtain ⟨F, hF⟩ : ∃ F, cellF xss = F := ⟨_, rfl⟩
  simp only [hF] at HE HB VK hh hcell
  have here : sqF n F A D = -1 := by rw [sqF_in _ A1 D1]; have := hcell A D A1 D1; omega
  have HCB := Lib.hid (fun r c (hr : RowB n (sqF n F) r) (hc : ColB n (sqF n F) c) => canI_canB nhi hr hc A1 D1 s)
  have RNG : Hid (canB n F A D s = true → 0 ≤ s ∧ s < n) := fun h => by
    unfold canB at h
    rw [Bool.and_eq_true, decide_eq_true_iff] at h
    exact h.1
  have GE : Hid (gridL n n (upd2 (sqF n F) A D s) = gridL n n (upd2 F A D s)) := gridL_congr fun x y hx hy => by
    unfold upd2
    split
    · rfl
    · exact sqF_in F hx hy
  have HH := Lib.hid here
  obtain ⟨z, hzz⟩ : ∃ z, canB n F A D s = z := ⟨_, rfl⟩
  simp only [hzz] at HB HCB RNG
  rw [HB.out] at VB VK
  clear hv hx hz hp S hn HB hF hzz a1 b1 hh hcell here
  go_enter Try.func24, Try.ntmps24
  go_wp2_with fail
  refine HE.out.mono ?_
  rintro e w1 ⟨p, rfl, hP, b1⟩
  obtain ⟨g, rfl, hg, r, c, P, R, C⟩ := hP (by trivial)
  have r32 := (R A A1).1
  have c32 := (C D D1).1
  have ecb := HCB.out r c R C
  have s1 := b1.size
  have glt := P.lt
  have T2 : (w1.alloc (.cells #[.int .i64 A, .int .i64 D, .int .i64 s] 64)).heap[w1.heap.size]? = some (.cells #[.int .i64 A, .int .i64 D, .int .i64 s] 64 (0, 0)) := heap_alloc_new _ _
  have b2 : Below w.heap.size w (w1.alloc (.cells #[.int .i64 A, .int .i64 D, .int .i64 s] 64)) := b1.alloc s1 _
  have P2 : PtV (w1.alloc (.cells #[.int .i64 A, .int .i64 D, .int .i64 s] 64)) g n (sqF n F) r c := (heap_alloc_old _ _ (by omega)).trans P
  have z2 : (w1.alloc (.cells #[.int .i64 A, .int .i64 D, .int .i64 s] 64)).heap.size = w1.heap.size + 1 := World.size_alloc _ _
  obtain ⟨c1, c2, c3⟩ := cell3 T2
  have HT2 := Lib.hid T2
  have HB2 := Lib.hid b2
  have HP2 := Lib.hid P2
  have HZ2 := Lib.hid z2
  have HR := Lib.hid R
  have HC := Lib.hid C
  have HGL := Lib.hid glt
  clear hP P R C b1 T2 b2 P2 z2 glt s1 HE
  go_wp2_with fail
  obtain ⟨w2, hw2⟩ : ∃ w2, w1.alloc (.cells #[.int .i64 A, .int .i64 D, .int .i64 s] 64) = w2 := ⟨_, rfl⟩
  obtain ⟨q, hq⟩ : ∃ q, w1.heap.size = q := ⟨_, rfl⟩
  rw [hw2] at c1 c2 c3 HT2 HB2 HP2 HZ2 ⊢
  rw [hq] at c1 c2 c3 HT2 HZ2 HGL
  have HK := Lib.hid (ican n nhi A D (by omega) (by omega) s _ r c w2 g HP2.out r32 c32)
  rw [ecb] at HK
  clear hw2 ecb
  cases z with
  | false =>
    have V := Lib.hid (VB.out rfl)
    refine HK.out.mono ?_
    rintro e w3 ⟨rfl, b3⟩
    have B3 := Lib.hid (t_chain HB2.out b3)
    have NL : Hid (RowsL w3 w.heap.size w3.heap.size (.slice none 0 0) []) := RowsL.nil _ _ _ (Nat.le_refl _)
    clear b3 hq
    go_wp2
    go_ret2
    exact ⟨_, by rw [V.out.2]; rfl, by rw [V.out.1]; exact NL.out, B3.out⟩
  | true =>
    have V := Lib.hid (VK.out rfl)
    have rng := RNG.out rfl
    obtain ⟨t, rfl⟩ : ∃ t : Nat, s = t := ⟨s.toNat, by omega⟩
    have t10 : t < 32 := by omega
    refine HK.out.mono ?_
    rintro e w3 ⟨rfl, b3⟩
    have B3 := Lib.hid (t_chain HB2.out b3)
    have T3 := (b3.block q (by have := HZ2.out; omega)).trans HT2.out
    have P3 := HP2.out.below b3 (by have := HZ2.out; have := HGL.out; omega)
    obtain ⟨c31, c32', c33⟩ := cell3 T3
    have HF := Lib.hid (ifillp n A D (by omega) (by omega) t t10 _ r c w3 g P3 r32 c32)
    clear b3 T3 P3 c1 c2 c3 rng
    rw [hq]
    clear hq
    go_wp2_with fail
    refine HF.out.mono ?_
    rintro e w4 ⟨rfl, P4, b4⟩
    have b4' : Below w.heap.size w w4 := B3.out.trans (b4.mono hg)
    have B4 := Lib.hid b4'
    have RG := Lib.hid P4.range
    have HW := Lib.hid (irows2 n nhi w4 (upd2 (sqF n F) A D t))
    rw [GE.out] at HW
    obtain ⟨L, hL⟩ : ∃ L, (iar 101 (sqC n (upd2 (sqF n F) A D t))).toList = L := ⟨_, rfl⟩
    have hLA : iar 101 (sqC n (upd2 (sqF n F) A D t)) = L.toArray := by rw [← hL]
    have iL : (Try.prog.info? 50).map (·.size) = some L.length := by rw [← hL, Array.length_toList, iar_size]; exact Try.infoSq
    rw [hL] at RG
    rw [hLA] at HW
    clear P4 b4 b4' hL hLA HF
    go_wp2_with (refine wpList_load_mid rfl 50 (.tmp 36) rfl g 0 rfl L _ RG.out Try.underlying50 rfl iL ?_)
    refine HW.out.mono ?_
    rintro e w5 ⟨rr, rfl, r5, b5⟩
    have R5 := Lib.hid (r5.mono (B' := w.heap.size) B4.out.size (Nat.le_refl _) (Nat.le_refl _))
    have B5 := Lib.hid (t_chain B4.out b5)
    clear r5 b5
    go_wp2
    go_ret2
    exact ⟨_, by rw [V.out.2]; rfl, by rw [V.out.1]; exact R5.out, B5.out⟩
end Go.Proofs.Ytaipgfahkpnooaa
