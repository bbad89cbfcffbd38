/- IsSubsquare: the exported functions. -/
import Derived.Test.YtigcgpgkpkoodaaDoorIsq
import Derived.Test.YtigcgpgkpkoodaaDoorPut
namespace Go.Proofs.YtigcgpgkpkoodaaDoor
open Go.RowKit Go.Shelf
set_option linter.unusedVariables false

set_option maxRecDepth 100000 in
set_option maxHeartbeats 8000000 in
theorem iIsSubsquare (xss : List (List Int)) (rs cs : List Int) (hx : SmallLL xss) (h1 : SmallL rs) (h2 : SmallL cs) (w : World) (v u t : Value) (hv : RowsAt w v xss) (hu : IntsC w u rs) (hc : IntsC w t cs) (ht : Tab w) :
    Calls Tryd.prog 31 #[v, u, t] w fun e w' => e = .returned (.bool (IsSubsquare_0 xss rs cs)) ∧ Below w.heap.size w w' := by
  have HA := Lib.hid (ilsq w v xss hv)
  have TB := Lib.hid ht
  have E : Hid (IsSubsquare_0 xss rs cs = (sqB xss && (risesB 0 ((xss.length : Int) - 1) rs && (risesB 0 ((xss.length : Int) - 1) cs && (decide (rs.length = cs.length) && (decide (1 ≤ rs.length) && decide ((fls 32 (symS (cellF xss) rs cs rs.length)).length = rs.length))))))) := rfl
  have HU := Lib.hid hu
  have HCC := Lib.hid hc
  obtain ⟨ua, uk, rfl⟩ := hu.shape
  obtain ⟨ta, tk, rfl⟩ := hc.shape
  obtain ⟨V, hV⟩ : ∃ V, IsSubsquare_0 xss rs cs = V := ⟨_, rfl⟩
  rw [hV] at E ⊢
  have r63 := hu.1.1
  have c63 := hc.1.1
  cases hp : sqB xss with
  | false =>
    have V2 : Hid (V = false) := by have := E.out; rwa [hp, Bool.false_and] at this
    rw [hp] at HA
    clear hp hv hu hc hV E ht
    go_enter Tryd.func31, Tryd.ntmps31
    go_wp2_with fail
    refine HA.out.mono ?_
    rintro e w1 ⟨n, F, rfl, -, b1⟩
    have st1 := stores_newSq w1 (sqC n F)
    have B2 : Hid (Below w.heap.size w (w1.alloc (.cells (iar 101 (sqC n F)) 64))) := b1.alloc b1.size _
    clear b1
    go_wp2
    go_ret
    exact ⟨by rw [V2.out]; rfl, B2.out⟩
  | true =>
    have S := of_sqB hp
    rw [hp] at HA
    have E1 : V = (risesB 0 ((xss.length : Int) - 1) rs && (risesB 0 ((xss.length : Int) - 1) cs && (decide (rs.length = cs.length) && (decide (1 ≤ rs.length) && decide ((fls 32 (symS (cellF xss) rs cs rs.length)).length = rs.length))))) := by have := E.out; rwa [hp, Bool.true_and] at this
    have nhi := S.hi
    have nlo := S.lo
    have IQ := S.inSq
    obtain ⟨n, hn⟩ : ∃ n, xss.length = n := ⟨_, rfl⟩
    rw [hn] at HA E1 nhi nlo IQ
    have IQ2 : InSq n (sqF n (cellF xss)) := fun x y hx hy => by rw [sqF_in _ hx hy]; exact IQ x y hx hy
    have FC : ∀ x y, x < n → y < n → sqF n (cellF xss) x y = cellF xss x y := fun x y hx hy => sqF_in _ hx hy
    have VS : ∀ (xs : List Int), validSet xs (n : Int) = risesB 0 ((n : Int) - 1) xs := fun xs => by
      unfold validSet
      rw [decide_eq_true (by omega), decide_eq_true (by omega)]; rfl
    have HR := Lib.hid (fun W (b : Below w.heap.size w W) => ivalid W _ rs (n : Int) (HU.out.below b (Nat.le_refl _)).1)
    have HT := Lib.hid (fun W (b : Below w.heap.size w W) => ivalid W _ cs (n : Int) (HCC.out.below b (Nat.le_refl _)).1)
    simp only [VS] at HR HT
    have HS := Lib.hid (fun W (b : Below w.heap.size w W) (k1 : risesB 0 ((n : Int) - 1) rs = true) (k2 : risesB 0 ((n : Int) - 1) cs = true) => isyms n nhi W (sqF n (cellF xss)) IQ2 _ _ rs cs (HU.out.below b (Nat.le_refl _)).1 (HCC.out.below b (Nat.le_refl _)).1 (fun i hi => by have := rises_at k1 i hi; omega) (fun i hi => by have := rises_at k2 i hi; omega))
    have SE : Hid (risesB 0 ((n : Int) - 1) rs = true → risesB 0 ((n : Int) - 1) cs = true → symS (sqF n (cellF xss)) rs cs rs.length = symS (cellF xss) rs cs rs.length) := fun k1 k2 =>
      symS_congr FC (fun i hi => by have := rises_at k2 i hi; omega) _ (fun i hi => by have := rises_at k1 i hi; omega)
    obtain ⟨F, hF⟩ : ∃ F, sqF n (cellF xss) = F := ⟨_, rfl⟩
    simp only [hF] at HA HS SE
    obtain ⟨r1, hr1⟩ : ∃ r, risesB 0 ((n : Int) - 1) rs = r := ⟨_, rfl⟩
    obtain ⟨r2, hr2⟩ : ∃ r, risesB 0 ((n : Int) - 1) cs = r := ⟨_, rfl⟩
    simp only [hr1] at HR E1 HS SE
    simp only [hr2] at HT E1 HS SE
    obtain ⟨l, hl⟩ : ∃ l, rs.length = l := ⟨_, rfl⟩
    obtain ⟨m, hm⟩ : ∃ m, cs.length = m := ⟨_, rfl⟩
    rw [hl] at HR HS SE E1 r63
    rw [hm] at HT E1 c63
    simp only [hm] at HS
    have EE := Lib.hid E1
    rw [hl, hm]
    clear hp hv hu hc hV E S hn IQ IQ2 FC VS hF hr1 hr2 E1 hl hm ht
    go_enter Tryd.func31, Tryd.ntmps31
    go_wp2_with fail
    refine HA.out.mono ?_
    rintro e w1 ⟨n', F', rfl, hA, b1⟩
    obtain ⟨rfl, rfl⟩ := hA (by trivial)
    have st1 := stores_newSq w1 (sqC n' F')
    have b2 : Below w.heap.size w (w1.alloc (.cells (iar 101 (sqC n' F')) 64)) := b1.alloc b1.size _
    have A2 : SqAt (w1.alloc (.cells (iar 101 (sqC n' F')) 64)) w1.heap.size n' F' := heap_alloc_new _ _
    obtain ⟨g, hg⟩ : ∃ g, w1.heap.size = g := ⟨_, rfl⟩
    obtain ⟨w2, hw2⟩ : ∃ w2, w1.alloc (.cells (iar 101 (sqC n' F')) 64) = w2 := ⟨_, rfl⟩
    rw [hw2] at st1 b2 A2
    rw [hg] at st1 A2
    have o2 := SqAt.order A2
    have X2 := Lib.hid A2
    have B2 := Lib.hid b2
    have R2 := Lib.hid (HR.out w2 b2)
    have T2 := Lib.hid (HT.out w2 b2)
    clear hA b1 b2 A2 HA
    cases r1 with
    | false =>
      have V2 : Hid (V = false) := by have := EE.out; rwa [Bool.false_and] at this
      go_wp2_with fail
      refine R2.out.mono ?_
      rintro e w3 ⟨rfl, rfl⟩
      go_wp2
      go_ret
      exact ⟨by rw [V2.out]; rfl, B2.out⟩
    | true =>
      cases r2 with
      | false =>
        have V2 : Hid (V = false) := by have := EE.out; rwa [Bool.true_and, Bool.false_and] at this
        go_wp2_with fail
        refine R2.out.mono ?_
        rintro e w3 ⟨rfl, rfl⟩
        go_wp2_with fail
        refine T2.out.mono ?_
        rintro e w4 ⟨rfl, rfl⟩
        go_wp2
        go_ret
        exact ⟨by rw [V2.out]; rfl, B2.out⟩
      | true =>
        have E3 : Hid (V = (decide (l = m) && (decide (1 ≤ l) && decide ((fls 32 (symS (cellF xss) rs cs l)).length = l)))) := by have := EE.out; rwa [Bool.true_and, Bool.true_and] at this
        have SY := Lib.hid (HS.out w2 B2.out rfl rfl)
        have S3 := Lib.hid (SE.out rfl rfl)
        by_cases q1 : 1 ≤ l
        · have t1 : decide ((1 : Int) ≤ (l : Int)) = true := decide_eq_true (by omega)
          have t1' : decide (1 ≤ l) = true := decide_eq_true q1
          by_cases q2 : l = m
          · have t2 : ((l : Int) == (m : Int)) = true := by simp [q2]
            have t2' : (l == m) = true := by simp [q2]
            have E4 : Hid (V = decide ((fls 32 (symS (cellF xss) rs cs l)).length = l)) := by have := E3.out; rwa [decide_eq_true q1, decide_eq_true q2, Bool.true_and, Bool.true_and] at this
            clear q1 q2
            go_wp2_with fail
            refine R2.out.mono ?_
            rintro e w3 ⟨rfl, rfl⟩
            go_wp2_with fail
            refine T2.out.mono ?_
            rintro e w4 ⟨rfl, rfl⟩
            go_wp2_with fail
            refine wp_load_row 64 (.tmp 7) rfl _ rfl _ _ _ _ X2.out Tryd.underlying64 rfl (by rw [iar_size]; exact Tryd.infoSq) ?_
            go_wp2_with fail
            refine SY.out.mono ?_
            rintro e w5 ⟨x, rfl, xl, xb, b5⟩
            have B5 := Lib.hid (t_chain B2.out b5)
            have EF : fls 32 (fun i => x.testBit i) = fls 32 (symS (cellF xss) rs cs l) := fls_congr _ _ _ (fun i hi => by rw [xb, S3.out])
            have HP := Lib.hid (ipoints x w5 xl (TB.out.below B5.out TB.out.pos))
            rw [EF] at HP
            clear b5 xb EF xl
            go_wp2_with fail
            refine HP.out.mono ?_
            rintro e w6 ⟨r, rfl, i6, b6⟩
            have B6 := Lib.hid (t_chain B5.out b6)
            obtain ⟨ra, rc, rfl⟩ := Ints.len_eq i6
            obtain ⟨q, hq⟩ : ∃ q, (fls 32 (symS (cellF xss) rs cs l)).length = q := ⟨_, rfl⟩
            have ql : q ≤ 32 := by rw [← hq]; exact fls_len _ _
            rw [hq] at E4 ⊢
            clear b6 i6 hq
            by_cases e : q = l
            · have t3 : ((l : Int) == (q : Int)) = true := by simp [e]
              have t3' : (l == q) = true := by simp [e]
              have V2 : Hid (V = true) := by have := E4.out; rwa [decide_eq_true e] at this
              clear e
              go_wp2
              go_ret
              exact ⟨by rw [V2.out]; rfl, B6.out⟩
            · have t3 : ((l : Int) == (q : Int)) = false := by simp; omega
              have t3' : (l == q) = false := by simp; omega
              have V2 : Hid (V = false) := by have := E4.out; rwa [decide_eq_false e] at this
              clear e
              go_wp2
              go_ret
              exact ⟨by rw [V2.out]; rfl, B6.out⟩
          · have t2 : ((l : Int) == (m : Int)) = false := by simp; omega
            have t2' : (l == m) = false := by simpa using q2
            have V2 : Hid (V = false) := by have := E3.out; rwa [decide_eq_false q2, Bool.false_and] at this
            clear q1 q2
            go_wp2_with fail
            refine R2.out.mono ?_
            rintro e w3 ⟨rfl, rfl⟩
            go_wp2_with fail
            refine T2.out.mono ?_
            rintro e w4 ⟨rfl, rfl⟩
            go_wp2
            go_ret
            exact ⟨by rw [V2.out]; rfl, B2.out⟩
        · have t1 : decide ((1 : Int) ≤ (l : Int)) = false := decide_eq_false (by omega)
          have t1' : decide (1 ≤ l) = false := decide_eq_false q1
          have V2 : Hid (V = false) := by have := E3.out; rwa [decide_eq_false q1, Bool.false_and, Bool.and_false] at this
          clear q1
          go_wp2_with fail
          refine R2.out.mono ?_
          rintro e w3 ⟨rfl, rfl⟩
          go_wp2_with fail
          refine T2.out.mono ?_
          rintro e w4 ⟨rfl, rfl⟩
          go_wp2
          go_ret
          exact ⟨by rw [V2.out]; rfl, B2.out⟩

set_option maxRecDepth 100000 in
set_option maxHeartbeats 8000000 in
theorem sIsSubsquare (xss : List (List Int)) (rs cs : List Int) (hx : SmallLL xss) (h1 : SmallL rs) (h2 : SmallL cs) (w : World) (v u t : Value) (hv : RowsAt w v xss) (hu : IntsC w u rs) (hc : IntsC w t cs) :
    Calls Tryd.prog 29 #[v, u, t] w fun e w' => e = .returned (.bool (IsSubsquare_0 xss rs cs)) ∧ Below w.heap.size w w' := by
  have HA := Lib.hid (sSq w v xss hv)
  have E : Hid (IsSubsquare_0 xss rs cs = (sqB xss && (risesB 0 ((xss.length : Int) - 1) rs && (risesB 0 ((xss.length : Int) - 1) cs && (decide (rs.length = cs.length) && (decide (1 ≤ rs.length) && decide ((fls 32 (symS (cellF xss) rs cs rs.length)).length = rs.length))))))) := rfl
  have HU := Lib.hid hu
  have HCC := Lib.hid hc
  have r63 := hu.1.1
  have c63 := hc.1.1
  have hml := hv.1
  obtain ⟨V, hV⟩ : ∃ V, IsSubsquare_0 xss rs cs = V := ⟨_, rfl⟩
  rw [hV] at E ⊢
  cases hp : sqB xss with
  | false =>
    obtain ⟨ua, uk, rfl⟩ := hu.shape
    obtain ⟨ta, tk, rfl⟩ := hc.shape
    obtain ⟨va, vk, rfl, -, -⟩ := hv.cellsOf
    have V2 : Hid (V = false) := by have := E.out; rwa [hp, Bool.false_and] at this
    rw [hp] at HA
    clear hp hv hu hc hV E
    go_enter Tryd.func29, Tryd.ntmps29
    go_wp2_with fail
    refine HA.out.mono ?_
    rintro e w1 ⟨rfl, b1⟩
    have B1 := Lib.hid b1
    clear b1
    go_wp2
    go_ret
    exact ⟨by rw [V2.out]; rfl, B1.out⟩
  | true =>
    have S := of_sqB hp
    rw [hp] at HA
    have E1 : V = (risesB 0 ((xss.length : Int) - 1) rs && (risesB 0 ((xss.length : Int) - 1) cs && (decide (rs.length = cs.length) && (decide (1 ≤ rs.length) && decide ((fls 32 (symS (cellF xss) rs cs rs.length)).length = rs.length))))) := by have := E.out; rwa [hp, Bool.true_and] at this
    have nhi := S.hi
    have nlo := S.lo
    have IQ := Lib.hid S.inSq
    have RL := S.rowLen
    obtain ⟨n, hn⟩ : ∃ n, xss.length = n := ⟨_, rfl⟩
    rw [hn] at E1 nhi nlo IQ RL hml
    obtain ⟨g, off, vk, rfl, K⟩ := hv.look2 hn RL nlo
    have HK := Lib.hid K
    obtain ⟨ua, uk, rfl, K1⟩ := hu.1.look rfl
    obtain ⟨ta, tk, rfl, K2⟩ := hc.1.look rfl
    have HK1 := Lib.hid K1
    have HK2 := Lib.hid K2
    have HR := Lib.hid (fun W (b : Below w.heap.size w W) => srises W _ rs 0 ((n : Int) - 1) (HU.out.below b (Nat.le_refl _)).1)
    have HT := Lib.hid (fun W (b : Below w.heap.size w W) => srises W _ cs 0 ((n : Int) - 1) (HCC.out.below b (Nat.le_refl _)).1)
    have w1n := IntWalk.i64_in ((n : Int) - 1) (by omega)
    have RR : Hid (risesB 0 ((n : Int) - 1) rs = true → ∀ i, i < rs.length → 0 ≤ rs.getD i 0 ∧ rs.getD i 0 < n) := fun k i hi => by have := rises_at k i hi; omega
    have RC : Hid (risesB 0 ((n : Int) - 1) cs = true → ∀ i, i < cs.length → 0 ≤ cs.getD i 0 ∧ cs.getD i 0 < n) := fun k i hi => by have := rises_at k i hi; omega
    obtain ⟨F, hF⟩ : ∃ F, cellF xss = F := ⟨_, rfl⟩
    rw [hF] at HK E1 IQ
    have S0 : Hid (∀ i, symS F rs cs (i + 1) = symR F (rs.getD i 0).toNat cs cs.length (symS F rs cs i)) := fun i => rfl
    have Z0 : Hid (∀ i, symS F rs cs 0 i = false) := fun i => rfl
    have R0 : Hid (∀ x k P, symR F x cs (k + 1) P = updC (symR F x cs k P) (F x (cs.getD k 0).toNat).toNat true) := fun x k P => rfl
    have R1 : Hid (∀ x P, symR F x cs 0 P = P) := fun x P => rfl
    obtain ⟨r1, hr1⟩ : ∃ r, risesB 0 ((n : Int) - 1) rs = r := ⟨_, rfl⟩
    obtain ⟨r2, hr2⟩ : ∃ r, risesB 0 ((n : Int) - 1) cs = r := ⟨_, rfl⟩
    simp only [hr1] at HR E1 RR
    simp only [hr2] at HT E1 RC
    obtain ⟨l, hl⟩ : ∃ l, rs.length = l := ⟨_, rfl⟩
    obtain ⟨m, hm⟩ : ∃ m, cs.length = m := ⟨_, rfl⟩
    simp only [hl] at HR E1 r63 HK1 RR
    simp only [hm] at HT E1 c63 HK2 RC S0
    rw [hl, hm]
    have EE := Lib.hid E1
    clear hp hv hu hc hV E S hn K K1 K2 hF hr1 hr2 E1 hl hm RL
    go_enter Tryd.func29, Tryd.ntmps29
    go_wp2_with fail
    refine HA.out.mono ?_
    rintro e w1 ⟨rfl, b1⟩
    have B1 := Lib.hid b1
    clear b1
    cases r1 with
    | false =>
      have V2 : Hid (V = false) := by have := EE.out; rwa [Bool.false_and] at this
      go_wp2_with fail
      refine (HR.out _ B1.out).mono ?_
      rintro e w2 ⟨rfl, k2, rfl⟩
      go_wp2
      go_ret
      exact ⟨by rw [V2.out]; rfl, Go.below_drewN B1.out _⟩
    | true =>
      cases r2 with
      | false =>
        have V2 : Hid (V = false) := by have := EE.out; rwa [Bool.true_and, Bool.false_and] at this
        go_wp2_with fail
        refine (HR.out _ B1.out).mono ?_
        rintro e w2 ⟨rfl, k2, rfl⟩
        go_wp2_with fail
        refine (HT.out _ (Go.below_drewN B1.out k2)).mono ?_
        rintro e w3 ⟨rfl, k3, rfl⟩
        go_wp2
        go_ret
        exact ⟨by rw [V2.out]; rfl, Go.below_drewN B1.out _⟩
      | true =>
        have E3 : Hid (V = (decide (l = m) && (decide (1 ≤ l) && decide ((fls 32 (symS F rs cs l)).length = l)))) := by have := EE.out; rwa [Bool.true_and, Bool.true_and] at this
        have RR2 := Lib.hid (RR.out (by trivial))
        have RC2 := Lib.hid (RC.out (by trivial))
        by_cases q2 : l = m
        · have t2 : ((l : Int) != (m : Int)) = false := by simp [q2]
          have t2' : (l != m) = false := by simp [q2]
          by_cases q1 : 1 ≤ l
          · have t1 : ((l : Int) == 0) = false := by simp; omega
            have t1' : (l == 0) = false := by simp; omega
            have E4 : Hid (V = decide ((fls 32 (symS F rs cs l)).length = l)) := by have := E3.out; rwa [decide_eq_true q1, decide_eq_true q2, Bool.true_and, Bool.true_and] at this
            clear q1 q2
            go_wp2_with fail
            refine (HR.out _ B1.out).mono ?_
            rintro e w2 ⟨rfl, k2, rfl⟩
            go_wp2_with fail
            refine (HT.out _ (Go.below_drewN B1.out k2)).mono ?_
            rintro e w3 ⟨rfl, k3, rfl⟩
            obtain ⟨w3, hw3⟩ : ∃ w3, (w1.drewN k2).drewN k3 = w3 := ⟨_, rfl⟩
            have b3 : Below w.heap.size w w3 := by rw [← hw3]; exact Go.below_drewN (Go.below_drewN B1.out _) _
            obtain ⟨B, hB⟩ : ∃ B, w3.heap.size = B := ⟨_, rfl⟩
            have hwB : w.heap.size ≤ B := by rw [← hB]; exact b3.size
            have I0 : Hid (Ints (w3.alloc (.cells #[] 2)) B (.slice (some ⟨B, 0, none⟩) 0 0) (fls 32 (symS F rs cs 0))) := by
              have : fls 32 (symS F rs cs 0) = [] := by rfl
              rw [this, ← hB]; exact World.ownsRow_made w3 #[] 0 (Nat.le_refl _) (by decide) rfl
            have M0 : Hid (Below w.heap.size w (w3.alloc (.cells #[] 2))) := b3.alloc b3.size _
            have z0 : B ≤ (w3.alloc (.cells #[] 2)).heap.size := by rw [World.size_alloc]; omega
            rw [hw3]
            clear b3
            go_wp2
            obtain ⟨wo, hwo⟩ : ∃ wo, w3.alloc (.cells #[] 2) = wo := ⟨_, rfl⟩
            rw [hwo] at I0 M0 z0 ⊢
            clear hwo hB hw3
            go_loopw [8, 9] (fun rv i wr => ∃ j : Nat, j ≤ l ∧ i = .int .i64 j ∧ Hid (Ints wr B rv (fls 32 (symS F rs cs j))) ∧ Hid (Below w.heap.size w wr) ∧ B ≤ wr.heap.size) (fun _ i _ => l - (intOf i).toNat)
            case atStart => exact ⟨0, by omega, rfl, I0, M0, z0⟩
            case round =>
              obtain ⟨j, hj, rfl, hI, hBl, hz⟩ := hrel
              by_cases c : j < l
              · have k1 : decide (j < l) = true := by simpa using c
                have k1' : decide ((j : Int) < (l : Int)) = true := decide_eq_true (by omega)
                have wj := IntWalk.i64_in ((j : Int) + 1) (by omega)
                have j0 : (0 : Int) ≤ (j : Int) := by omega
                have j1 : (j : Int) < (l : Int) := by omega
                have hrj := RR2.out j c
                have s0 := S0.out j
                obtain ⟨X, hX⟩ : ∃ X : Nat, rs.getD j 0 = X := ⟨(rs.getD j 0).toNat, by omega⟩
                have HX := Lib.hid hX
                rw [hX] at hrj s0
                rw [Int.toNat_natCast] at s0
                have HS0 := Lib.hid s0
                have Xn : X < n := by omega
                have X0 : (0 : Int) ≤ (X : Int) := by omega
                have X1 : (X : Int) < (n : Int) := by omega
                obtain ⟨ov, rfl⟩ : ∃ ov : Value, ov = u8 := ⟨_, rfl⟩
                have hI1 : Hid (Ints wr B ov (fls 32 (symR F X cs 0 (symS F rs cs j)))) := by unfold Hid; rw [R1.out]; exact hI.out
                clear hX hrj s0
                obtain ⟨wq, rfl⟩ : ∃ wq : World, wq = wr := ⟨_, rfl⟩
                go_wp2
                go_loopw [8, 10] (fun rv i wr => ∃ k : Nat, k ≤ m ∧ i = .int .i64 k ∧ Hid (Ints wr B rv (fls 32 (symR F X cs k (symS F rs cs j)))) ∧ Hid (Below w.heap.size w wr) ∧ B ≤ wr.heap.size) (fun _ i _ => m - (intOf i).toNat)
                case atStart => exact ⟨0, by omega, rfl, hI1, hBl, hz⟩
                case round =>
                  obtain ⟨k, hk, rfl, hI2, hBl2, hz2⟩ := hrel
                  by_cases c2 : k < m
                  · have k2 : decide (k < m) = true := by simpa using c2
                    have k2' : decide ((k : Int) < (m : Int)) = true := decide_eq_true (by omega)
                    have wk := IntWalk.i64_in ((k : Int) + 1) (by omega)
                    have kk0 : (0 : Int) ≤ (k : Int) := by omega
                    have kk1 : (k : Int) < (m : Int) := by omega
                    obtain ⟨wd, hwd⟩ : ∃ wd, wr.drew = wd := ⟨_, rfl⟩
                    have BD : Below w.heap.size w wd := by rw [← hwd]; exact hBl2.out.drew
                    obtain ⟨g1, o1, rfl, m1⟩ := HK1.out wd BD j c
                    rw [HX.out] at m1
                    obtain ⟨g2, o2, rfl, m2⟩ := HK2.out wd BD k c2
                    have hck := RC2.out k c2
                    have r0 := R0.out X k (symS F rs cs j)
                    obtain ⟨Y, hY⟩ : ∃ Y : Nat, cs.getD k 0 = Y := ⟨(cs.getD k 0).toNat, by omega⟩
                    rw [hY] at m2 hck r0
                    rw [Int.toNat_natCast] at r0
                    have Yn : Y < n := by omega
                    have Y0 : (0 : Int) ≤ (Y : Int) := by omega
                    have Y1 : (Y : Int) < (n : Int) := by omega
                    obtain ⟨g3, o3, k3, m3, m4⟩ := HK.out wd BD X Xn
                    have m5 := m4 Y Yn
                    have iq := IQ.out X Y Xn Yn
                    obtain ⟨t, ht⟩ : ∃ t : Nat, F X Y = t := ⟨(F X Y).toNat, by omega⟩
                    rw [ht] at m5 r0 iq
                    rw [Int.toNat_natCast] at r0
                    have ID : Ints wd B u8 (fls 32 (symR F X cs k (symS F rs cs j))) := by rw [← hwd]; exact hI2.out
                    have zd : B ≤ wd.heap.size := by rw [← hwd]; exact hz2
                    have HP := Lib.hid (sput wd u8 _ (t : Int) ID.at (by have := fls_len 32 (symR F X cs k (symS F rs cs j)); omega))
                    rw [put_fls t _ 32 (by omega), ← r0] at HP
                    have HBD := Lib.hid BD
                    clear m4 ht hY iq hck r0 BD ID
                    go_wp2
                    refine wp_region_still_tail 14 (by kernel_rfl) (by kernel_rfl) ?_
                    simp only [List.take_succ_cons, List.take_zero, List.drop_succ_cons, List.drop_zero]
                    change wpStill _ _ wr.drew _ _ _
                    rw [hwd]
                    repeat still_step
                    refine wpStill_nil ?_
                    change wpList _ _ _ _ _ wr.drew
                    rw [hwd]
                    clear hwd
                    go_wp2_with fail
                    refine HP.out.mono ?_
                    rintro e w6 ⟨r, rfl, i6, b6⟩
                    have I6 := Lib.hid (i6.mono (B' := B) zd)
                    have B6 := Lib.hid (t_chain HBD.out b6)
                    have z6 : B ≤ w6.heap.size := Nat.le_trans zd b6.size
                    clear i6 b6
                    go_wp2
                    go_roundw
                    case rel => exact ⟨k + 1, by omega, by go_num, I6, B6, z6⟩
                    case measure => simp [intOf]; omega
                  · have k2 : decide (k < m) = false := by simpa using c2
                    have k2' : decide ((k : Int) < (m : Int)) = false := decide_eq_false (by omega)
                    obtain rfl : k = m := by omega
                    have I3 : Hid (Ints wr B u8 (fls 32 (symS F rs cs (j + 1)))) := by unfold Hid; rw [HS0.out]; exact hI2.out
                    go_wp2
                    go_roundw
                    case rel => exact ⟨j + 1, by omega, by go_num, I3, hBl2, hz2⟩
                    case measure => simp [intOf]; omega
              · have k1 : decide (j < l) = false := by simpa using c
                have k1' : decide ((j : Int) < (l : Int)) = false := decide_eq_false (by omega)
                obtain rfl : j = l := by omega
                obtain ⟨ra, rc, rfl⟩ := Ints.len_eq hI.out
                obtain ⟨q, hq⟩ : ∃ q, (fls 32 (symS F rs cs j)).length = q := ⟨_, rfl⟩
                have ql : q ≤ 32 := by rw [← hq]; exact fls_len _ _
                rw [hq] at E4 ⊢
                clear hI hq
                by_cases e : q = j
                · have t3 : ((q : Int) == (j : Int)) = true := by simp [e]
                  have t3' : (q == j) = true := by simp [e]
                  have V2 : Hid (V = true) := by have := E4.out; rwa [decide_eq_true e] at this
                  clear e
                  go_wp2
                  go_ret
                  exact ⟨by rw [V2.out]; rfl, hBl.out⟩
                · have t3 : ((q : Int) == (j : Int)) = false := by simp; omega
                  have t3' : (q == j) = false := by simp; omega
                  have V2 : Hid (V = false) := by have := E4.out; rwa [decide_eq_false e] at this
                  clear e
                  go_wp2
                  go_ret
                  exact ⟨by rw [V2.out]; rfl, hBl.out⟩
          · have t1 : ((l : Int) == 0) = true := by simp; omega
            have t1' : (l == 0) = true := by simp; omega
            have V2 : Hid (V = false) := by have := E3.out; rwa [decide_eq_false q1, Bool.false_and, Bool.and_false] at this
            clear q1 q2
            go_wp2_with fail
            refine (HR.out _ B1.out).mono ?_
            rintro e w2 ⟨rfl, k2, rfl⟩
            go_wp2_with fail
            refine (HT.out _ (Go.below_drewN B1.out k2)).mono ?_
            rintro e w3 ⟨rfl, k3, rfl⟩
            go_wp2
            go_ret
            exact ⟨by rw [V2.out]; rfl, Go.below_drewN B1.out _⟩
        · have t2 : ((l : Int) != (m : Int)) = true := by simp; omega
          have t2' : (l != m) = true := by simp [q2]
          have V2 : Hid (V = false) := by have := E3.out; rwa [decide_eq_false q2, Bool.false_and] at this
          clear q2
          go_wp2_with fail
          refine (HR.out _ B1.out).mono ?_
          rintro e w2 ⟨rfl, k2, rfl⟩
          go_wp2_with fail
          refine (HT.out _ (Go.below_drewN B1.out k2)).mono ?_
          rintro e w3 ⟨rfl, k3, rfl⟩
          go_wp2
          go_ret
          exact ⟨by rw [V2.out]; rfl, Go.below_drewN B1.out _⟩
end Go.Proofs.YtigcgpgkpkoodaaDoor
