/- SymbolColumns: both exported functions. -/
import Derived.Test.YtkonddifmonkcaaSyc
import Derived.Test.YtkonddifmonkcaaIa
namespace Go.Proofs.Ytkonddifmonkcaa
open Go.RowKit Go.Shelf
set_option linter.unusedVariables false

def firsts (xss : List (List Int)) (s : Int) (n x : Nat) : List Int := (List.range x).map fun k => firstAt (xss.getD k []) s n
noncomputable def SymbolColumns_0 (xss : List (List Int)) (s : Int) : List Int := if sqB xss = true ∧ (0 ≤ s ∧ s < xss.length) then firsts xss s xss.length xss.length else []
noncomputable def SymbolColumns_1 (xss : List (List Int)) (s : Int) : Int := if sqB xss = true then if 0 ≤ s ∧ s < xss.length then 0 else 2 else 1
theorem Sym_bad {xss : List (List Int)} {s : Int} (h : sqB xss = false) : SymbolColumns_0 xss s = [] ∧ SymbolColumns_1 xss s = 1 := by
  unfold SymbolColumns_0 SymbolColumns_1
  rw [h, if_neg (fun k => Bool.noConfusion k.1), if_neg Bool.noConfusion]; exact ⟨rfl, rfl⟩
theorem Sym_out {xss : List (List Int)} {s : Int} (h : sqB xss = true) (k : ¬ (0 ≤ s ∧ s < xss.length)) : SymbolColumns_0 xss s = [] ∧ SymbolColumns_1 xss s = 2 := by
  unfold SymbolColumns_0 SymbolColumns_1
  rw [if_neg (fun q => k q.2), if_pos h, if_neg k]; exact ⟨rfl, rfl⟩
theorem Sym_ok {xss : List (List Int)} {s : Int} (h : sqB xss = true) (k : 0 ≤ s ∧ s < xss.length) : SymbolColumns_0 xss s = firsts xss s xss.length xss.length ∧ SymbolColumns_1 xss s = 0 := by
  unfold SymbolColumns_0 SymbolColumns_1
  rw [if_pos ⟨h, k⟩, if_pos h, if_pos k]; exact ⟨rfl, rfl⟩
theorem lenSymbolColumns_0 (xss : List (List Int)) (s : Int) (hx : SmallLL xss) (hs : I64 s) : (SymbolColumns_0 xss s).length ≤ 2000000 := by
  cases e : sqB xss with
  | false => rw [(Sym_bad e).1]; decide
  | true =>
    by_cases k : 0 ≤ s ∧ s < xss.length
    · have := (of_sqB e).hi
      rw [(Sym_ok e k).1]
      unfold firsts
      rw [List.length_map, List.length_range]; omega
    · rw [(Sym_out e k).1]; decide
theorem first_stay {r : List Int} {s : Int} {j : Nat} (h : ∀ k, k < j → r.getD k 0 ≠ s) (hj : r.getD j 0 = s) : ∀ d, firstAt r s (j + 1 + d) = j
  | 0 => by rw [Nat.add_zero, firstAt, (stands_none j h).2, if_pos rfl, if_pos hj]
  | d + 1 => by
    rw [← Nat.add_assoc, firstAt, first_stay h hj d, if_neg (by omega)]

set_option maxHeartbeats 1000000 in
theorem iIndex (w : World) (v : Value) (r : List Int) (s : Int) (n : Nat) (hn : r.length = n) (hl : n ≤ 1000) (hv : IntsAt w v r) :
    Calls Try.prog 77 #[v, .int .i64 s] w fun e w' => e = .returned (.int .i64 (firstAt r s n)) ∧ w' = w := by
  obtain ⟨a, c, rfl, k⟩ := hv.look hn
  have HK := Lib.hid (fun i hi => k w (Below.refl _ _) i hi)
  have HIT : Hid (∀ j, j < n → (∀ k, k < j → r.getD k 0 ≠ s) → r.getD j 0 = s → firstAt r s n = j) := fun j hj h e => by
    have := first_stay h e (n - (j + 1))
    rwa [show j + 1 + (n - (j + 1)) = n by omega] at this
  have MISS : Hid ((∀ k, k < n → r.getD k 0 ≠ s) → firstAt r s n = -1) := fun h => (stands_none n h).2
  clear k hv hn
  go_enter Try.func77, Try.ntmps77
  go_wp2
  go_loop [8] (fun i => ∃ j : Nat, j ≤ n ∧ i = .int .i64 j ∧ Hid (∀ k, k < j → r.getD k 0 ≠ s)) (fun i => n - (intOf i).toNat)
  case atStart => exact ⟨0, by omega, rfl, fun k hk => by omega⟩
  case round =>
    obtain ⟨j, hj, rfl, hN⟩ := hrel
    by_cases c : j < n
    · have g1 : decide (j < n) = true := by simpa using c
      have g1' : decide ((j : Int) < (n : Int)) = true := decide_eq_true (by omega)
      obtain ⟨g, off, rfl, m1⟩ := HK.out j c
      have j0 : (0 : Int) ≤ (j : Int) := by omega
      have j1 : (j : Int) < (n : Int) := by omega
      have w3 := IntWalk.i64_in ((j : Int) + 1) (by omega)
      have HJ := Lib.hid (HIT.out j c hN.out)
      obtain ⟨x, hx⟩ : ∃ x, r.getD j 0 = x := ⟨_, rfl⟩
      rw [hx] at m1 HJ
      by_cases e : x = s
      · have V := Lib.hid (HJ.out e)
        have g2 : (s == x) = true := by simp [e]
        clear hx e
        go_wp2
        go_ret
        exact ⟨by rw [V.out]; rfl, rfl⟩
      · have N2 : Hid (∀ k, k < j + 1 → r.getD k 0 ≠ s) := fun k hk => by
          by_cases q : k = j
          · rw [q, hx]; exact e
          · exact hN.out k (by omega)
        have g2 : (s == x) = false := by simp; exact fun h => e h.symm
        clear hx e
        go_wp2
        go_round
        case rel => exact ⟨j + 1, by omega, by go_num, N2⟩
        case measure => simp [intOf]; omega
    · have g1 : decide (j < n) = false := by simpa using c
      have g1' : decide ((j : Int) < (n : Int)) = false := decide_eq_false (by omega)
      obtain rfl : j = n := by omega
      have V := Lib.hid (MISS.out hN.out)
      go_wp2
      go_ret
      exact ⟨by rw [V.out]; rfl, rfl⟩

set_option maxRecDepth 100000 in
set_option maxHeartbeats 8000000 in
theorem iSymbolColumns (xss : List (List Int)) (s : Int) (hx : SmallLL xss) (hs : I64 s) (w : World) (v : Value) (hv : RowsAt w v xss) :
    Calls Try.prog 57 #[v, .int .i64 s] w fun e w' => ∃ r, e = .returned (.tuple #[r, .int .i64 (SymbolColumns_1 xss s)]) ∧ Ints w' w.heap.size r (SymbolColumns_0 xss s) ∧ Below w.heap.size w w' := by
  have H0 := Lib.hid (ilsq w v xss hv)
  cases hp : sqB xss with
  | false =>
    have V := Lib.hid (Sym_bad (s := s) hp)
    rw [hp] at H0
    clear hp hv
    go_enter Try.func57, Try.ntmps57
    go_wp2_with fail
    refine H0.out.mono ?_
    rintro e w4 ⟨m, f, rfl, -, b4⟩
    have st := stores_newSq w4 (sqC m f)
    have B5 : Hid (Below w.heap.size w (w4.alloc (.cells (iar 101 (sqC m f)) 46))) := b4.alloc b4.size _
    clear b4
    go_wp2
    go_ret2
    exact ⟨_, by rw [V.out.2]; rfl, by rw [V.out.1]; exact nilI _ _, B5.out⟩
  | true =>
    have VO := Lib.hid (fun k => Sym_out (s := s) hp k)
    have VK := Lib.hid (fun k => Sym_ok (s := s) hp k)
    have S := of_sqB hp
    rw [hp] at H0
    have nhi := S.hi
    have nlo := S.lo
    have RL := Lib.hid S.rowLen
    obtain ⟨va, vk, rfl, -, hc⟩ := hv.cellsOf
    obtain ⟨n, hn⟩ : ∃ n, xss.length = n := ⟨_, rfl⟩
    rw [hn] at H0 VO VK nhi nlo RL hc ⊢
    have HC := Lib.hid hc
    have HN := Lib.hid hn
    clear hp hv S hn hc
    go_enter Try.func57, Try.ntmps57
    go_wp2_with fail
    refine H0.out.mono ?_
    rintro e w4 ⟨m, f, rfl, hmf2, b4⟩
    obtain ⟨hm1, hm2⟩ := hmf2 (by trivial)
    rw [hm1, hm2]
    clear hmf2 hm1 hm2
    have s4 := b4.size
    obtain ⟨F, hF⟩ : ∃ F, sqF n (cellF xss) = F := ⟨_, rfl⟩
    rw [hF]
    have st := stores_newSq w4 (sqC n F)
    have b5 : Below w.heap.size w (w4.alloc (.cells (iar 101 (sqC n F)) 46)) := b4.alloc s4 _
    have A5 : SqAt (w4.alloc (.cells (iar 101 (sqC n F)) 46)) w4.heap.size n F := heap_alloc_new _ _
    obtain ⟨w5, hw5⟩ : ∃ w5, w4.alloc (.cells (iar 101 (sqC n F)) 46) = w5 := ⟨_, rfl⟩
    obtain ⟨g, hg⟩ : ∃ g, w4.heap.size = g := ⟨_, rfl⟩
    rw [hw5] at st b5 A5
    rw [hg] at st A5
    have or5 := SqAt.order A5
    have B5 := Lib.hid b5
    by_cases k : 0 ≤ s ∧ s < n
    case neg =>
      have V := Lib.hid (VO.out k)
      clear b4 b5 A5 hF H0 VO VK
      by_cases c : s < 0
      · have t1 : decide (s < 0) = true := decide_eq_true c
        clear k c
        go_wp2
        go_ret2
        exact ⟨_, by rw [V.out.2]; rfl, by rw [V.out.1]; exact nilI _ _, B5.out⟩
      · have t1 : decide (s < 0) = false := decide_eq_false c
        have t2 : decide ((n : Int) ≤ s) = true := decide_eq_true (by omega)
        clear k c
        go_wp2
        go_ret2
        exact ⟨_, by rw [V.out.2]; rfl, by rw [V.out.1]; exact nilI _ _, B5.out⟩
    have V := Lib.hid (VK.out k)
    have t1 : decide (s < 0) = false := decide_eq_false (by omega)
    have t2 : decide ((n : Int) ≤ s) = false := decide_eq_false (by omega)
    have hmk := run_make_row' (P := Try.prog) 35 2 (.int .i64 0) 8 Try.underlying35 Try.infoInt rfl .i64 .i64 n (by omega) (by omega) w5
    have IA := made_ia w5 2 n
    have b6 : Below w.heap.size w (w5.alloc (.cells (madeCells #[.int .i64 0] n) 2)) := b5.alloc b5.size _
    obtain ⟨w6, hw6⟩ : ∃ w6, w5.alloc (.cells (madeCells #[.int .i64 0] n) 2) = w6 := ⟨_, rfl⟩
    rw [hw6] at hmk IA b6
    obtain ⟨B, hB⟩ : ∃ B, w5.heap.size = B := ⟨_, rfl⟩
    rw [hB] at hmk IA
    have hwB : w.heap.size ≤ B := by rw [← hB]; exact b5.size
    have I6 : Hid (Ia w6 2 B n (fun i => if i < 0 then firstAt (xss.getD i []) s n else 0)) := IA.congr (fun i hi => by rw [if_neg (by omega)])
    have B6 := Lib.hid b6
    clear b4 b5 A5 hF H0 VO VK k IA b6
    go_wp2
    clear hmk st or5 hw5 hw6 hB
    go_loopw [31] (fun i wr => ∃ x : Nat, x ≤ n ∧ i = .int .i64 x ∧ Hid (Ia wr 2 B n (fun i => if i < x then firstAt (xss.getD i []) s n else 0)) ∧ Hid (Below w.heap.size w wr)) (fun i _ => n - (intOf i).toNat)
    case atStart => exact ⟨0, by omega, rfl, I6, B6⟩
    case round =>
      obtain ⟨x, hx, rfl, hI, hBl⟩ := hrel
      by_cases c : x < n
      · have k1 : decide (x < n) = true := by simpa using c
        have k1' : decide ((x : Int) < (n : Int)) = true := decide_eq_true (by omega)
        have w3 := IntWalk.i64_in ((x : Int) + 1) (by omega)
        have x0 : (0 : Int) ≤ (x : Int) := by omega
        have x1 : (x : Int) < (n : Int) := by omega
        obtain ⟨g1, off, u, rfl, hg1, cj, hu⟩ := HC.out x c
        obtain ⟨ua, uk, rfl⟩ := hu.shape
        have cj2 := (hBl.out.cell (p := ⟨g1, off + x, none⟩) hg1).trans cj
        have HX := Lib.hid (iIndex wr _ (xss.getD x []) s n (RL.out x c) (by omega) (hu.below hBl.out (Nat.le_refl _)).1)
        have fr : -1 ≤ firstAt (xss.getD x []) s n ∧ firstAt (xss.getD x []) s n ≤ n := by
          have : ∀ y, -1 ≤ firstAt (xss.getD x []) s y ∧ firstAt (xss.getD x []) s y ≤ y := fun y => by
            induction y with
            | zero => exact ⟨by rw [firstAt]; omega, by rw [firstAt]; omega⟩
            | succ y ih =>
              rw [firstAt]
              split
              · split <;> omega
              · omega
          exact this n
        have oc := hI.out.cell x c
        have fz := hI.out.frozen x
        obtain ⟨l, hl⟩ : ∃ l, (xss.getD x []).length = l := ⟨_, rfl⟩
        rw [hl] at cj2 HX
        obtain ⟨z, hz⟩ : ∃ z, firstAt (xss.getD x []) s n = z := ⟨_, rfl⟩
        rw [hz] at HX fr
        have S1 : Hid (Ia (wr.setCell ⟨B, x, none⟩ (.int .i64 z)) 2 B n (fun i => if i < x + 1 then firstAt (xss.getD i []) s n else 0)) := (hI.out.set x z).congr (fun i hi => by
          unfold updI
          by_cases e : i = x
          · rw [if_pos e, if_pos (by omega), e, hz]
          · rw [if_neg e]
            show (if i < x then firstAt (xss.getD i []) s n else 0) = _
            by_cases e2 : i < x
            · rw [if_pos e2, if_pos (by omega)]
            · rw [if_neg e2, if_neg (by omega)])
        have S2 : Hid (Below w.heap.size w (wr.setCell ⟨B, x, none⟩ (.int .i64 z))) := hBl.out.setCell (p := ⟨B, x, none⟩) hwB _
        have w4 := IntWalk.i64_in z (by omega)
        clear hz hl hu cj hg1 fr
        go_wp2_with fail
        refine HX.out.mono ?_
        rintro e w7 ⟨rfl, rfl⟩
        go_wp2
        go_roundw
        case rel => exact ⟨x + 1, by omega, by go_num, S1, S2⟩
        case measure => simp [intOf]; omega
      · have k1 : decide (x < n) = false := by simpa using c
        have k1' : decide ((x : Int) < (n : Int)) = false := decide_eq_false (by omega)
        obtain rfl : x = n := by omega
        have R := (hI.out.ints (B := w.heap.size) hwB (by unfold maxLen; omega))
        have eL : (List.range x).map (fun i => if i < x then firstAt (xss.getD i []) s x else 0) = firsts xss s x x := List.map_congr_left fun i hi => by rw [if_pos (List.mem_range.1 hi)]
        rw [eL] at R
        have RR := Lib.hid R
        clear R eL
        go_wp2
        go_ret2
        exact ⟨_, by rw [V.out.2]; rfl, by rw [V.out.1]; exact RR.out, hBl.out⟩

theorem firsts_len (xss : List (List Int)) (s : Int) (n x : Nat) : (firsts xss s n x).length = x := by unfold firsts; simp
theorem stands_len (r : List Int) (s : Int) : ∀ y, (stands r s y).length ≤ y
  | 0 => Nat.le_refl _
  | y + 1 => by
    have := stands_len r s y
    rw [stands, List.length_append]
    split
    · simp only [List.length_singleton]; omega
    · simp only [List.length_nil]; omega

set_option maxRecDepth 100000 in
set_option maxHeartbeats 8000000 in
theorem sSymI (xss : List (List Int)) (s : Int) (hx : SmallLL xss) (hs : I64 s) (w : World) (v : Value) (hv : RowsAt w v xss) :
    Calls Try.prog 56 #[v, .int .i64 s] w fun e w' => ∃ r, e = .returned (.tuple #[r, .int .i64 (SymbolColumns_1 xss s)]) ∧ Ints w' w.heap.size r (SymbolColumns_0 xss s) ∧ Below w.heap.size w w' := by
  have HS := Lib.hid (sSq w v xss hv)
  have hml := hv.1
  cases hp : sqB xss with
  | false =>
    obtain ⟨va, vk, rfl, -, -⟩ := hv.cellsOf
    have V := Lib.hid (Sym_bad (s := s) hp)
    rw [hp] at HS
    clear hp hv
    go_enter Try.func56, Try.ntmps56
    go_wp2_with fail
    refine HS.out.mono ?_
    rintro e w1 ⟨rfl, b1⟩
    have B1 := Lib.hid b1
    clear b1
    go_wp2
    go_ret2
    exact ⟨_, by rw [V.out.2]; rfl, by rw [V.out.1]; exact nilI _ _, B1.out⟩
  | true =>
    have VO := Lib.hid (fun k => Sym_out (s := s) hp k)
    have VK := Lib.hid (fun k => Sym_ok (s := s) hp k)
    have S := of_sqB hp
    rw [hp] at HS
    have nhi := S.hi
    have nlo := S.lo
    have PM := Lib.hid (fun x hx k0 k1 => pm_stands (s := s) (S.row x hx).1 (S.row x hx).2 k0 k1)
    obtain ⟨va, vk, rfl, K⟩ := hv.look rfl S.rowLen
    obtain ⟨n, hn⟩ : ∃ n, xss.length = n := ⟨_, rfl⟩
    rw [hn] at HS VO VK nhi nlo PM K hml ⊢
    have HK := Lib.hid K
    have w1n := IntWalk.i64_in ((n : Int) - 1) (by omega)
    clear hp hv S hn K
    by_cases k : 0 ≤ s ∧ s < n
    case neg =>
      have V := Lib.hid (VO.out k)
      have HI := Lib.hid (fun W => in_no' s 0 ((n : Int) - 1) W (by omega))
      clear VO VK k PM
      go_enter Try.func56, Try.ntmps56
      go_wp2_with fail
      refine HS.out.mono ?_
      rintro e w1 ⟨rfl, b1⟩
      have B1 := Lib.hid b1
      clear b1
      go_wp2_with fail
      refine (HI.out _).mono ?_
      rintro e w2 ⟨rfl, rfl⟩
      go_wp2
      go_ret2
      exact ⟨_, by rw [V.out.2]; rfl, by rw [V.out.1]; exact nilI _ _, B1.out⟩
    have V := Lib.hid (VK.out k)
    have HI := Lib.hid (fun W => in_yes' s 0 ((n : Int) - 1) W (by omega) (by omega))
    have PN : Hid (∀ x, x < n → stands (xss.getD x []) s n = [firstAt (xss.getD x []) s n]) := fun x hx => PM.out x hx k.1 k.2
    have FS : Hid (∀ x, firsts xss s n (x + 1) = firsts xss s n x ++ [firstAt (xss.getD x []) s n]) := fun x => by unfold firsts; rw [List.range_succ, List.map_append]; rfl
    have SS : Hid (∀ x y, stands (xss.getD x []) s (y + 1) = stands (xss.getD x []) s y ++ (if (xss.getD x []).getD y 0 = s then [((y : Nat) : Int)] else [])) := fun x y => rfl
    have LN : Hid (∀ x y, (firsts xss s n x ++ stands (xss.getD x []) s y).length ≤ x + y) := fun x y => by rw [List.length_append, firsts_len]; have := stands_len (xss.getD x []) s y; omega
    have S0 : Hid (∀ x, firsts xss s n x ++ stands (xss.getD x []) s 0 = firsts xss s n x) := fun x => by unfold stands; rw [List.append_nil]
    clear VO VK k PM
    go_enter Try.func56, Try.ntmps56
    go_wp2_with fail
    refine HS.out.mono ?_
    rintro e w1 ⟨rfl, b1⟩
    have B1 := Lib.hid b1
    obtain ⟨B, hB⟩ : ∃ B, w1.heap.size = B := ⟨_, rfl⟩
    have hwB : w.heap.size ≤ B := by rw [← hB]; exact b1.size
    have L0 : Hid (Ints (w1.alloc (.cells #[] 2)) B (.slice (some ⟨B, 0, none⟩) 0 0) (firsts xss s n 0)) := by rw [← hB]; exact World.ownsRow_made w1 #[] 0 (Nat.le_refl _) (by decide) rfl
    have M0 : Hid (Below w.heap.size w (w1.alloc (.cells #[] 2))) := b1.alloc b1.size _
    have z0 : B ≤ (w1.alloc (.cells #[] 2)).heap.size := by rw [World.size_alloc]; omega
    clear b1
    go_wp2_with fail
    refine (HI.out _).mono ?_
    rintro e w2 ⟨rfl, rfl⟩
    go_wp2
    obtain ⟨wo, hwo⟩ : ∃ wo, w2.alloc (.cells #[] 2) = wo := ⟨_, rfl⟩
    rw [hwo] at L0 M0 z0 ⊢
    clear hwo hB
    go_loopw [7, 8] (fun rv i wr => ∃ x : Nat, x ≤ n ∧ i = .int .i64 x ∧ Hid (Ints wr B rv (firsts xss s n x)) ∧ Hid (Below w.heap.size w wr) ∧ B ≤ wr.heap.size) (fun _ i _ => n - (intOf i).toNat)
    case atStart => exact ⟨0, by omega, rfl, L0, M0, z0⟩
    case round =>
      obtain ⟨x, hx, rfl, hI, hBl, hz⟩ := hrel
      by_cases c : x < n
      · have k1 : decide (x < n) = true := by simpa using c
        have k1' : decide ((x : Int) < (n : Int)) = true := decide_eq_true (by omega)
        have w5 := IntWalk.i64_in ((x : Int) + 1) (by omega)
        have x0 : (0 : Int) ≤ (x : Int) := by omega
        have x1 : (x : Int) < (n : Int) := by omega
        obtain ⟨wq, rfl⟩ : ∃ wq : World, wq = wr := ⟨_, rfl⟩
        have I0 : Hid (Ints wq B u7 (firsts xss s n x ++ stands (xss.getD x []) s 0)) := by unfold Hid; rw [S0.out]; exact hI.out
        go_wp2
        go_loopw [7, 9] (fun rv i wr => ∃ y : Nat, y ≤ n ∧ i = .int .i64 y ∧ Hid (Ints wr B rv (firsts xss s n x ++ stands (xss.getD x []) s y)) ∧ Hid (Below w.heap.size w wr) ∧ B ≤ wr.heap.size) (fun _ i _ => n - (intOf i).toNat)
        case atStart => exact ⟨0, by omega, rfl, I0, hBl, hz⟩
        case round =>
          obtain ⟨y, hy, rfl, hI2, hBl2, hz2⟩ := hrel
          by_cases c2 : y < n
          · have k2 : decide (y < n) = true := by simpa using c2
            have k2' : decide ((y : Int) < (n : Int)) = true := decide_eq_true (by omega)
            have w6 := IntWalk.i64_in ((y : Int) + 1) (by omega)
            have y0 : (0 : Int) ≤ (y : Int) := by omega
            have y1 : (y : Int) < (n : Int) := by omega
            obtain ⟨g, off, g2, off2, ck, rfl, m1, m2⟩ := HK.out wr hBl2.out x y c c2
            have ss := SS.out x y
            have ln := LN.out x y
            have ec : cellF xss x y = (xss.getD x []).getD y 0 := rfl
            rw [← ec] at ss
            obtain ⟨q, hq⟩ : ∃ q, cellF xss x y = q := ⟨_, rfl⟩
            rw [hq] at m2 ss
            clear ec hq
            by_cases e : q = s
            · rw [if_pos e] at ss
              have HSS := Lib.hid ss
              have g2 : (q == s) = true := by simp [e]
              clear ss e
              go_wp2_with (at_builtin; refine wpList_push wr (by rfl) _ _ (by rfl) B _ _ (by rfl) hI2.out y _ (by rfl) (by omega) hz2 ?_; intro v' w6 hn hb; have HN6 := Lib.hid hn; have HB6 := Lib.hid hb; clear hn hb)
              go_roundw
              case rel => exact ⟨y + 1, by omega, by go_num, by unfold Hid; rw [HSS.out, ← List.append_assoc]; exact HN6.out, hBl2.out.trans (HB6.out.mono hwB), Nat.le_trans hz2 HB6.out.size⟩
              case measure => simp [intOf]; omega
            · rw [if_neg e, List.append_nil] at ss
              have I3 : Hid (Ints wr B u7 (firsts xss s n x ++ stands (xss.getD x []) s (y + 1))) := by unfold Hid; rw [ss]; exact hI2.out
              have g2 : (q == s) = false := by simpa using e
              clear ss e
              go_wp2
              go_roundw
              case rel => exact ⟨y + 1, by omega, by go_num, I3, hBl2, hz2⟩
              case measure => simp [intOf]; omega
          · have k2 : decide (y < n) = false := by simpa using c2
            have k2' : decide ((y : Int) < (n : Int)) = false := decide_eq_false (by omega)
            obtain rfl : y = n := by omega
            have I4 : Hid (Ints wr B u7 (firsts xss s y (x + 1))) := by unfold Hid; rw [FS.out, ← PN.out x c]; exact hI2.out
            go_wp2
            go_roundw
            case rel => exact ⟨x + 1, by omega, by go_num, I4, hBl2, hz2⟩
            case measure => simp [intOf]; omega
      · have k1 : decide (x < n) = false := by simpa using c
        have k1' : decide ((x : Int) < (n : Int)) = false := decide_eq_false (by omega)
        obtain rfl : x = n := by omega
        go_wp2
        go_ret2
        exact ⟨_, by rw [V.out.2]; rfl, by rw [V.out.1]; exact hI.out.mono hwB, hBl.out⟩

theorem sSymbolColumns (xss : List (List Int)) (s : Int) (hx : SmallLL xss) (hs : I64 s) (w : World) (v : Value) (hv : RowsAt w v xss) :
    Calls Try.prog 56 #[v, .int .i64 s] w fun e w' => ∃ r, e = .returned (.tuple #[r, .int .i64 (SymbolColumns_1 xss s)]) ∧ IntsAt w' r (SymbolColumns_0 xss s) ∧ Below w.heap.size w w' :=
  (sSymI xss s hx hs w v hv).mono fun e w' ⟨r, h1, h2, h3⟩ => ⟨r, h1, h2.at, h3⟩
end Go.Proofs.Ytkonddifmonkcaa
