/- ClearCells: the program's empty; both sides. -/
import Derived.Test.YtaipgfahkpnooaaFci
namespace Go.Proofs.Ytaipgfahkpnooaa
open Go.RowKit Go.Shelf
set_option linter.unusedVariables false

set_option maxRecDepth 100000 in
set_option maxHeartbeats 8000000 in
theorem iempt (n : Nat) (x y : Nat) (hx : x < 10) (hy : y < 10) (z : Nat) (hz : z < 32) (G : Nat → Nat → Int) (hG : G x y = z) (r c : Nat → Nat) (W : World) (g : Nat) (hA : PtV W g n G r c) (hr : r x < 4294967296) (hc : c y < 4294967296) :
    Calls Try.prog 35 #[.pointer (some ⟨g, 0, none⟩), .int .i64 x, .int .i64 y] W fun e W' => e = .returned (.tuple #[]) ∧ PtV W' g n (upd2 G x y (-1)) (updN r x (mns (r x) (2 ^ z))) (updN c y (mns (c y) (2 ^ z))) ∧ Below g W W' := by
  have o1 := hA.sym hx hy
  rw [hG] at o1
  have f1 := hA.frozen (1 + x * 10 + y)
  have P2 := hA.setSym hx hy (-1)
  have b2 : Below g W (W.setCell ⟨g, 1 + x * 10 + y, none⟩ (.int .i64 (-1))) := (Below.refl _ _).setCell (p := ⟨g, 1 + x * 10 + y, none⟩) (Nat.le_refl _) _
  obtain ⟨W2, hW2⟩ : ∃ W2, W.setCell ⟨g, 1 + x * 10 + y, none⟩ (.int .i64 (-1)) = W2 := ⟨_, rfl⟩
  rw [hW2] at P2 b2
  -- the row
  obtain ⟨v2, hv2⟩ : ∃ v2, W2.drew = v2 := ⟨_, rfl⟩
  have P2d : PtV v2 g n (upd2 G x y (-1)) r c := by rw [← hv2]; exact P2
  have b2d : Below g W v2 := by rw [← hv2]; exact b2.drew
  have o2 := P2d.rowC hx
  have f2 := P2d.frozen (101 + x)
  have P3 := P2d.setRow hx (mns (r x) (2 ^ z))
  have b3 : Below g W (v2.setCell ⟨g, 101 + x, none⟩ (.int .u32 ((mns (r x) (2 ^ z) : Nat) : Int))) := b2d.setCell (p := ⟨g, 101 + x, none⟩) (Nat.le_refl _) _
  have S1 := Lib.hid (fun W => isingleb z hz W)
  have U1 := Lib.hid (fun W => iminusp (r x) (2 ^ z) W hr (two_pow_lt hz))
  have U2 := Lib.hid (fun W => iminusp (c y) (2 ^ z) W hc (two_pow_lt hz))
  obtain ⟨p, hp⟩ : ∃ p, 2 ^ z = p := ⟨_, rfl⟩
  simp only [hp] at S1 U1 U2 P3 b3 ⊢
  obtain ⟨r2, hr2⟩ : ∃ r2, updN r x (mns (r x) p) = r2 := ⟨_, rfl⟩
  rw [hr2] at P3 ⊢
  obtain ⟨u, hu⟩ : ∃ u, r x = u := ⟨_, rfl⟩
  obtain ⟨v, hv⟩ : ∃ v, c y = v := ⟨_, rfl⟩
  simp only [hu] at U1 o2 P3 b3
  simp only [hv] at U2 ⊢
  obtain ⟨q1, hq1⟩ : ∃ q, mns u p = q := ⟨_, rfl⟩
  obtain ⟨q2, hq2⟩ : ∃ q, mns v p = q := ⟨_, rfl⟩
  simp only [hq1] at U1 P3 b3
  simp only [hq2] at U2 ⊢
  obtain ⟨W3, hW3⟩ : ∃ W3, v2.setCell ⟨g, 101 + x, none⟩ (.int .u32 (q1 : Int)) = W3 := ⟨_, rfl⟩
  rw [hW3] at P3 b3
  -- the column
  obtain ⟨v3, hv3⟩ : ∃ v3, W3.drew = v3 := ⟨_, rfl⟩
  have P3d : PtV v3 g n (upd2 G x y (-1)) r2 c := by rw [← hv3]; exact P3
  have b3d : Below g W v3 := by rw [← hv3]; exact b3.drew
  have o3 := P3d.colC hy
  rw [hv] at o3
  have f3 := P3d.frozen (111 + y)
  have P4 := Lib.hid (P3d.setCol hy q2)
  have b4 : Hid (Below g W (v3.setCell ⟨g, 111 + y, none⟩ (.int .u32 (q2 : Int)))) := b3d.setCell (p := ⟨g, 111 + y, none⟩) (Nat.le_refl _) _
  have x0 : (0 : Int) ≤ (x : Int) := by omega
  have x1 : (x : Int) < 10 := by omega
  have y0 : (0 : Int) ≤ (y : Int) := by omega
  have y1 : (y : Int) < 10 := by omega
  have tz : ((z : Int) == -1) = false := by first | (simp; done) | (simp; omega)
  clear hA P2 b2 P2d b2d P3 b3 P3d b3d hp hr2 hu hv hq1 hq2 hr hc hG
  go_enter Try.func35, Try.ntmps35
  go_wp2
  refine wp_region_still_tail 14 (by kernel_rfl) (by kernel_rfl) ?_
  simp only [List.take_succ_cons, List.take_zero, List.drop_succ_cons, List.drop_zero]
  change wpStill _ _ W2.drew _ _ _
  rw [hv2]
  repeat still_step
  still_call (S1.out _)
  still_call (U1.out _)
  repeat still_step
  refine wpStill_nil ?_
  change wpList _ _ _ _ _ W2.drew
  rw [hv2]
  go_wp2
  refine wp_region_still_tail 14 (by kernel_rfl) (by kernel_rfl) ?_
  simp only [List.take_succ_cons, List.take_zero, List.drop_succ_cons, List.drop_zero]
  change wpStill _ _ W3.drew _ _ _
  rw [hv3]
  repeat still_step
  still_call (S1.out _)
  still_call (U2.out _)
  repeat still_step
  refine wpStill_nil ?_
  change wpList _ _ _ _ _ W3.drew
  rw [hv3]
  go_wp2
  go_end0
  exact ⟨rfl, P4.out, b4.out⟩

set_option maxRecDepth 100000 in
set_option maxHeartbeats 8000000 in
theorem iempt0 (n : Nat) (x y : Nat) (hx : x < 10) (hy : y < 10) (G : Nat → Nat → Int) (hG : G x y = -1) (r c : Nat → Nat) (W : World) (g : Nat) (hA : PtV W g n G r c) :
    Calls Try.prog 35 #[.pointer (some ⟨g, 0, none⟩), .int .i64 x, .int .i64 y] W fun e W' => e = .returned (.tuple #[]) ∧ W' = W := by
  have o1 := hA.sym hx hy
  rw [hG] at o1
  have x0 : (0 : Int) ≤ (x : Int) := by omega
  have x1 : (x : Int) < 10 := by omega
  have y0 : (0 : Int) ≤ (y : Int) := by omega
  have y1 : (y : Int) < 10 := by omega
  clear hA hG
  go_enter Try.func35, Try.ntmps35
  go_wp2
  exact bodyPost_ret (v := .tuple #[]) (by simp [results, Try.results35, go_sem]) rfl ⟨rfl, rfl⟩

theorem upd2_same {G : Nat → Nat → Int} {x y : Nat} {v : Int} (h : G x y = v) : upd2 G x y v = G := by
  funext a b
  unfold upd2
  split
  · rename_i e; rw [e.1, e.2, h]
  · rfl
theorem PartF.clear {n : Nat} {G : Nat → Nat → Int} (h : PartF n G) (x y : Nat) : PartF n (upd2 G x y (-1)) where
  cell a b ha hb := by
    unfold upd2
    split
    · omega
    · exact h.cell a b ha hb
  rowD a b k ha hb hk h0 hne := by
    unfold upd2 at h0 ⊢
    split at h0
    · omega
    · rename_i q
      rw [if_neg q]
      split
      · omega
      · exact h.rowD a b k ha hb hk h0 hne
  colD a b k ha hb hk h0 hne := by
    unfold upd2 at h0 ⊢
    split at h0
    · omega
    · rename_i q
      rw [if_neg q]
      split
      · omega
      · exact h.colD a b k ha hb hk h0 hne
theorem iemptA (n : Nat) (hn : n ≤ 10) (x y : Nat) (hx : x < n) (hy : y < n) (G : Nat → Nat → Int) (hF : PartF n G) (W : World) (g : Nat) (hP : PtAt W g n G) :
    Calls Try.prog 35 #[.pointer (some ⟨g, 0, none⟩), .int .i64 x, .int .i64 y] W fun e W' => e = .returned (.tuple #[]) ∧ PtAt W' g n (upd2 G x y (-1)) ∧ Below g W W' := by
  obtain ⟨r, c, P, R, C⟩ := hP
  by_cases h : G x y = -1
  · refine (iempt0 n x y (by omega) (by omega) G h r c W g P).mono ?_
    rintro e W' ⟨h1, rfl⟩
    exact ⟨h1, by rw [upd2_same h]; exact ⟨r, c, P, R, C⟩, Below.refl _ _⟩
  · have hc := hF.cell x y hx hy
    obtain ⟨z, hz⟩ : ∃ z : Nat, G x y = z := ⟨(G x y).toNat, by omega⟩
    refine (iempt n x y (by omega) (by omega) z (by omega) G hz r c W g P (R x hx).1 (C y hy).1).mono ?_
    rintro e W' ⟨h1, h2, h3⟩
    refine ⟨h1, ⟨_, _, h2, RowB.clear R hy (by omega) hz (fun k hk hne e => ?_), ColB.clear C hx (by omega) hz (fun k hk hne e => ?_)⟩, h3⟩
    · exact hF.rowD x y k hx hy hk (by omega) hne (by rw [e, hz])
    · exact hF.colD x y k hx hy hk (by omega) hne (by rw [e, hz])

/-- The cells that are cleared. -/
def clrF (n : Nat) (f : Nat → Nat → Int) (cs : List Int) : Nat → Nat → Nat → Int
  | 0 => f
  | j + 1 => upd2 (clrF n f cs j) ((cs.getD j 0).toNat / n) ((cs.getD j 0).toNat % n) (-1)
def clr1 (n : Nat) (cs : List Int) (i : Nat) : Bool := decide (0 ≤ cs.getD i 0 ∧ cs.getD i 0 ≤ (n : Int) * n - 1)
def clrB (n : Nat) (cs : List Int) : Bool := allN cs.length (clr1 n cs)
theorem clr_in {n t : Nat} (h : (t : Int) ≤ (n : Int) * n - 1) : t / n < n ∧ t % n < n := by
  have h2 : t < n * n := by
    have : ((n * n : Nat) : Int) = (n : Int) * n := Int.natCast_mul n n
    omega
  have n0 : 0 < n := by
    rcases Nat.eq_zero_or_pos n with e | e
    · subst e; omega
    · exact e
  exact ⟨Nat.div_lt_of_lt_mul h2, Nat.mod_lt _ n0⟩
theorem clrF_congr {n : Nat} {f g : Nat → Nat → Int} {cs : List Int} (h : ∀ x y, x < n → y < n → f x y = g x y) : ∀ j x y, x < n → y < n → clrF n f cs j x y = clrF n g cs j x y
  | 0, x, y, hx, hy => h x y hx hy
  | j + 1, x, y, hx, hy => by
    unfold clrF upd2
    split
    · rfl
    · exact clrF_congr h j x y hx hy
theorem clrF_part {n : Nat} {f : Nat → Nat → Int} {cs : List Int} (h : PartF n f) : ∀ j, PartF n (clrF n f cs j)
  | 0 => h
  | j + 1 => (clrF_part h j).clear _ _
noncomputable def ClearCells_0 (xss : List (List Int)) (cs : List Int) : List (List Int) := if ptB xss = true ∧ clrB xss.length cs = true then gridL xss.length xss.length (clrF xss.length (cellF xss) cs cs.length) else []
noncomputable def ClearCells_1 (xss : List (List Int)) (cs : List Int) : Int := if ptB xss = true then if clrB xss.length cs = true then 0 else 2 else 1
theorem Cl_bad {xss : List (List Int)} {cs : List Int} (h : ptB xss = false) : ClearCells_0 xss cs = [] ∧ ClearCells_1 xss cs = 1 := by
  unfold ClearCells_0 ClearCells_1
  rw [h, if_neg (fun k => Bool.noConfusion k.1), if_neg Bool.noConfusion]; exact ⟨rfl, rfl⟩
theorem Cl_out {xss : List (List Int)} {cs : List Int} (h : ptB xss = true) (k : clrB xss.length cs = false) : ClearCells_0 xss cs = [] ∧ ClearCells_1 xss cs = 2 := by
  unfold ClearCells_0 ClearCells_1
  rw [k, if_neg (fun q => Bool.noConfusion q.2), if_pos h, if_neg Bool.noConfusion]; exact ⟨rfl, rfl⟩
theorem Cl_ok {xss : List (List Int)} {cs : List Int} (h : ptB xss = true) (k : clrB xss.length cs = true) : ClearCells_0 xss cs = gridL xss.length xss.length (clrF xss.length (cellF xss) cs cs.length) ∧ ClearCells_1 xss cs = 0 := by
  unfold ClearCells_0 ClearCells_1
  rw [if_pos ⟨h, k⟩, if_pos h, if_pos k]; exact ⟨rfl, rfl⟩
theorem lenClearCells_0 (xss : List (List Int)) (cs : List Int) (hx : SmallLL xss) (hc : SmallL cs) : (ClearCells_0 xss cs).length + tot (ClearCells_0 xss cs) ≤ 2000000 := by
  cases e : ptB xss with
  | false => rw [(Cl_bad e).1]; decide
  | true =>
    cases k : clrB xss.length cs with
    | false => rw [(Cl_out e k).1]; decide
    | true =>
      have := (of_ptB e).hi
      rw [(Cl_ok e k).1, gridL_length, tot_gridL]
      have : xss.length * xss.length ≤ 10 * 10 := Nat.mul_le_mul this this
      omega

set_option maxRecDepth 100000 in
set_option maxHeartbeats 8000000 in
theorem iClearCells (xss : List (List Int)) (cs : List Int) (hx : SmallLL xss) (hcs : SmallL cs) (w : World) (v u : Value) (hv : RowsAt w v xss) (hu : IntsC w u cs) :
    Calls Try.prog 18 #[v, u] w fun e w' => ∃ r, e = .returned (.tuple #[r, .int .i64 (ClearCells_1 xss cs)]) ∧ RowsL w' w.heap.size w'.heap.size r (ClearCells_0 xss cs) ∧ Below w.heap.size w w' := by
  have HP := Lib.hid (ipart w v xss hv)
  cases hp : ptB xss with
  | false =>
    obtain ⟨ua, uk, rfl⟩ := hu.shape
    have V := Lib.hid (Cl_bad (cs := cs) hp)
    rw [hp] at HP
    clear hp hv hu
    go_enter Try.func18, Try.ntmps18
    go_wp2_with fail
    refine HP.out.mono ?_
    rintro e w1 ⟨p, rfl, -, b1⟩
    have B1 := Lib.hid b1
    have NL : Hid (RowsL w1 w.heap.size w1.heap.size (.slice none 0 0) []) := RowsL.nil _ _ _ (Nat.le_refl _)
    clear b1
    go_wp2
    go_ret2
    exact ⟨_, by rw [V.out.2]; rfl, by rw [V.out.1]; exact NL.out, B1.out⟩
  | true =>
    have VO := Lib.hid (fun k => Cl_out (cs := cs) hp k)
    have VK := Lib.hid (fun k => Cl_ok (cs := cs) hp k)
    have S := of_ptB hp
    rw [hp] at HP
    have nhi := S.hi
    have nlo := S.lo
    have SF := Lib.hid S.pf
    obtain ⟨n, hn⟩ : ∃ n, xss.length = n := ⟨_, rfl⟩
    rw [hn] at HP VO VK nhi nlo SF
    obtain ⟨F, hF⟩ : ∃ F, cellF xss = F := ⟨_, rfl⟩
    rw [hF] at HP VK SF
    have PF : ∀ j, PartF n (clrF n (sqF n F) cs j) := clrF_part (by
      have := SF.out
      exact ⟨fun x y hx hy => by rw [sqF_in _ hx hy]; exact this.cell x y hx hy,
        fun x y k hx hy hk h0 hne => by rw [sqF_in _ hx hy] at h0 ⊢; rw [sqF_in _ hx hk]; exact this.rowD x y k hx hy hk h0 hne,
        fun x y k hx hy hk h0 hne => by rw [sqF_in _ hx hy] at h0 ⊢; rw [sqF_in _ hk hy]; exact this.colD x y k hx hy hk h0 hne⟩)
    have HPF := Lib.hid PF
    have GE : Hid (gridL n n (clrF n (sqF n F) cs cs.length) = gridL n n (clrF n F cs cs.length)) := gridL_congr fun x y hx hy => clrF_congr (fun a b ha hb => sqF_in F ha hb) _ x y hx hy
    have NO : Hid (∀ i, i < cs.length → clr1 n cs i = false → clrB n cs = false) := fun i hi h => allN_false hi h
    have YES : Hid ((∀ i, i < cs.length → clr1 n cs i = true) → clrB n cs = true) := allN_true
    have C1 : Hid (∀ i, clr1 n cs i = decide (0 ≤ cs.getD i 0 ∧ cs.getD i 0 ≤ (n : Int) * n - 1)) := fun i => rfl
    have CS : Hid (∀ j, clrF n (sqF n F) cs (j + 1) = upd2 (clrF n (sqF n F) cs j) ((cs.getD j 0).toNat / n) ((cs.getD j 0).toNat % n) (-1)) := fun j => rfl
    have mm : (1 : Int) ≤ (n : Int) * n ∧ (n : Int) * n ≤ 100 := by
      constructor
      · have : (1 : Int) * 1 ≤ (n : Int) * n := Int.mul_le_mul (by omega) (by omega) (by omega) (by omega)
        omega
      · have : (n : Int) * n ≤ 10 * 10 := Int.mul_le_mul (by omega) (by omega) (by omega) (by omega)
        omega
    have CI : Hid (∀ t : Nat, (t : Int) ≤ (n : Int) * n - 1 → t / n < n ∧ t % n < n) := fun t h => clr_in h
    obtain ⟨M, hM⟩ : ∃ M : Int, (n : Int) * n = M := ⟨_, rfl⟩
    rw [hM] at mm C1 CI
    have wM : IntKind.i64.wrap ((n : Int) * (n : Int)) = M := by rw [hM]; exact IntWalk.i64_in _ (by omega)
    obtain ⟨ua, uk, rfl, K⟩ := hu.1.look rfl
    obtain ⟨l, hl⟩ : ∃ l, cs.length = l := ⟨_, rfl⟩
    have l63 := hu.1.1
    rw [hl] at K NO YES GE VK l63
    rw [hl]
    have HK := Lib.hid K
    clear hp hv S hn hF hM K hu hl PF
    go_enter Try.func18, Try.ntmps18
    go_wp2_with fail
    refine HP.out.mono ?_
    rintro e w1 ⟨p, rfl, hP, b1⟩
    obtain ⟨g, rfl, hg, hPt⟩ := hP (by trivial)
    have B1 := Lib.hid b1
    have PT : Hid (PtAt w1 g n (clrF n (sqF n F) cs 0)) := hPt
    clear hP hPt b1
    go_wp2
    go_loopw [19] (fun i wr => ∃ j : Nat, j ≤ l ∧ i = .int .i64 j ∧ Hid (∀ k, k < j → clr1 n cs k = true) ∧ Hid (PtAt wr g n (clrF n (sqF n F) cs j)) ∧ Hid (Below w.heap.size w wr)) (fun i _ => l - (intOf i).toNat)
    case atStart => exact ⟨0, by omega, rfl, fun k h => by omega, PT, B1⟩
    case round =>
      obtain ⟨j, hj, rfl, hC, hP, hBl⟩ := hrel
      by_cases c : j < l
      · have k1 : decide (j < l) = true := by simpa using c
        have k1' : decide ((j : Int) < (l : Int)) = true := decide_eq_true (by omega)
        have wj := IntWalk.i64_in ((j : Int) + 1) (by omega)
        have j0 : (0 : Int) ≤ (j : Int) := by omega
        have j1 : (j : Int) < (l : Int) := by omega
        obtain ⟨g2, off2, rfl, m1⟩ := HK.out wr hBl.out j c
        have c1 := C1.out j
        have cs1 := CS.out j
        have NJ := Lib.hid (NO.out j c)
        obtain ⟨z, hz⟩ : ∃ z, cs.getD j 0 = z := ⟨_, rfl⟩
        rw [hz] at m1 c1 cs1
        obtain ⟨r, cc, P, -, -⟩ := hP.out
        have m0 := P.order
        clear P hz
        by_cases k : 0 ≤ z ∧ z ≤ M - 1
        · obtain ⟨t, rfl⟩ : ∃ t : Nat, z = t := ⟨z.toNat, by omega⟩
          rw [Int.toNat_natCast] at cs1
          have ti := CI.out t k.2
          have t1 : decide ((t : Int) < 0) = false := decide_eq_false (by omega)
          have t2 : decide (M ≤ (t : Int)) = false := decide_eq_false (by omega)
          have C2 : Hid (∀ k, k < j + 1 → clr1 n cs k = true) := fun i hi => by
            by_cases e : i = j
            · rw [e, c1]; exact decide_eq_true k
            · exact hC.out i (by omega)
          have HCS := Lib.hid cs1
          have z1 : ¬ (n : Int) = 0 := by omega
          have z2 : ((n : Int) == 0) = false := by simp; omega
          have z3 : ¬ n = 0 := by omega
          have z4 : (n == 0) = false := by simp; omega
          have tx : (t : Int).tdiv (n : Int) = ((t / n : Nat) : Int) := by rw [Int.tdiv_eq_ediv_of_nonneg (by omega)]; exact (Int.natCast_ediv t n).symm
          have dx : (t : Int) / (n : Int) = ((t / n : Nat) : Int) := (Int.natCast_ediv t n).symm
          have ux : (t : Int).tmod (n : Int) = ((t % n : Nat) : Int) := by rw [Int.tmod_eq_emod_of_nonneg (by omega)]; exact (Int.natCast_emod t n).symm
          have mx : (t : Int) % (n : Int) = ((t % n : Nat) : Int) := (Int.natCast_emod t n).symm
          have HE := Lib.hid (fun W (h : PtAt W g n (clrF n (sqF n F) cs j)) => iemptA n nhi (t / n) (t % n) ti.1 ti.2 _ (HPF.out j) W g h)
          obtain ⟨q1, hq1⟩ : ∃ q, t / n = q := ⟨_, rfl⟩
          obtain ⟨q2, hq2⟩ : ∃ q, t % n = q := ⟨_, rfl⟩
          simp only [hq1] at HE HCS
          simp only [hq2] at HE HCS
          rw [hq1] at tx dx ti
          rw [hq2] at ux mx ti
          have v1 := IntWalk.i64_in (q1 : Int) (by omega)
          have v2 := IntWalk.i64_in (q2 : Int) (by omega)
          rw [← HCS.out] at HE
          have m0d : ∀ k, (wr.drewN k).cell? ⟨g, 0, none⟩ = some (.int .i64 n) := fun k => m0
          have HPD := Lib.hid (fun k => show PtAt (wr.drewN k) g n (clrF n (sqF n F) cs j) from hP.out)
          have HBD := Lib.hid (fun k => Go.below_drewN hBl.out k)
          clear c1 cs1 k ti NJ hq1 hq2
          go_wp2
          go_quiet (fail)
          go_wp2
          obtain ⟨wa, hwa⟩ : ∃ wa, wr.drewN nq = wa := ⟨_, rfl⟩
          obtain ⟨wd, hwd⟩ : ∃ wd, wa.drew = wd := ⟨_, rfl⟩
          have PD : PtAt wd g n (clrF n (sqF n F) cs j) := by rw [← hwd, ← hwa]; exact hP.out
          have BD : Hid (Below w.heap.size w wd) := by unfold Hid; rw [← hwd, ← hwa]; exact (Go.below_drewN hBl.out nq).drew
          have mD : wd.cell? ⟨g, 0, none⟩ = some (.int .i64 n) := by rw [← hwd, ← hwa]; exact m0
          have HE2 := Lib.hid (HE.out wd PD)
          clear PD
          rw [hwa]
          refine wp_region_still_tail 15 (by kernel_rfl) (by kernel_rfl) ?_
          simp only [List.take_succ_cons, List.take_zero, List.drop_succ_cons, List.drop_zero]
          change wpStill _ _ wa.drew _ _ _
          rw [hwd]
          repeat still_step
          refine wpStill_nil ?_
          change wpList _ _ _ _ _ wa.drew
          rw [hwd]
          clear hwd hwa
          go_wp2_with fail
          refine HE2.out.mono ?_
          rintro e w6 ⟨rfl, P6, b6⟩
          have HP6 := Lib.hid P6
          have HB6 : Hid (Below w.heap.size w w6) := BD.out.trans (b6.mono hg)
          clear P6 b6
          go_wp2
          go_roundw
          case rel => exact ⟨j + 1, by omega, by go_num, C2, HP6, HB6⟩
          case measure => simp [intOf]; omega
        · have V := Lib.hid (VO.out (NJ.out (by rw [c1]; exact decide_eq_false k)))
          clear c1 cs1 NJ VO VK
          by_cases k0 : z < 0
          · have t1 : decide (z < 0) = true := decide_eq_true k0
            clear k k0
            have NL : Hid (∀ k, RowsL (wr.drewN k) w.heap.size (wr.drewN k).heap.size (.slice none 0 0) []) := fun k => RowsL.nil _ _ _ (Nat.le_refl _)
            go_wp2
            go_quiet (fail)
            go_wp2
            go_ret2
            exact ⟨_, by rw [V.out.2]; rfl, by rw [V.out.1]; exact NL.out _, Go.below_drewN hBl.out _⟩
          · have t1 : decide (z < 0) = false := decide_eq_false k0
            have t2 : decide (M ≤ z) = true := decide_eq_true (by omega)
            clear k k0
            have NL : Hid (∀ k, RowsL (wr.drewN k) w.heap.size (wr.drewN k).heap.size (.slice none 0 0) []) := fun k => RowsL.nil _ _ _ (Nat.le_refl _)
            go_wp2
            go_quiet (fail)
            go_wp2
            go_ret2
            exact ⟨_, by rw [V.out.2]; rfl, by rw [V.out.1]; exact NL.out _, Go.below_drewN hBl.out _⟩
      · have k1 : decide (j < l) = false := by simpa using c
        have k1' : decide ((j : Int) < (l : Int)) = false := decide_eq_false (by omega)
        obtain rfl : j = l := by omega
        have V := Lib.hid (VK.out (YES.out hC.out))
        obtain ⟨r, cc, P, -, -⟩ := hP.out
        have RG := Lib.hid P.range
        have HW := Lib.hid (irows2 n nhi wr (clrF n (sqF n F) cs j))
        rw [GE.out] at HW
        obtain ⟨L, hL⟩ : ∃ L, (iar 101 (sqC n (clrF n (sqF n F) cs j))).toList = L := ⟨_, rfl⟩
        have hLA : iar 101 (sqC n (clrF n (sqF n F) cs j)) = L.toArray := by rw [← hL]
        have iL : (Try.prog.info? 50).map (·.size) = some L.length := by rw [← hL, Array.length_toList, iar_size]; exact Try.infoSq
        rw [hL] at RG
        rw [hLA] at HW
        clear P hL hLA VO VK
        go_wp2_with (refine wpList_load_mid rfl 50 (.tmp 59) rfl g 0 rfl L _ RG.out Try.underlying50 rfl iL ?_)
        refine HW.out.mono ?_
        rintro e w5 ⟨rr, rfl, r5, b5⟩
        have R5 := Lib.hid (r5.mono (B' := w.heap.size) hBl.out.size (Nat.le_refl _) (Nat.le_refl _))
        have B5 := Lib.hid (t_chain hBl.out b5)
        clear r5 b5
        go_wp2
        go_ret2
        exact ⟨_, by rw [V.out.2]; rfl, by rw [V.out.1]; exact R5.out, B5.out⟩
end Go.Proofs.Ytaipgfahkpnooaa
