/- Quasigroups: the program's pairs, units and associativity. -/
import Derived.Test.YtigcgpgkpkoodabQg
import Derived.Test.YtigcgpgkpkoodabLsq
import Derived.WalkMore
import Derived.Deep.LoopGhost
namespace Go.Proofs.Ytigcgpgkpkoodab
open Go.RowKit Go.Shelf
set_option linter.unusedVariables false

/-- What a function on pairs answers, reading what lies below B. -/
def PairOk (w : World) (B : Nat) (s : Value) (n : Nat) (P : Nat → Nat → Bool) : Prop :=
  ∃ fn fs cs, s = .func (.func fn) fs cs ∧ (∀ args W, (callFunc fn args).run Try.prog W = .ok (.enter fn args) W) ∧ ∀ (W : World) (x y : Nat), Below B w W → x < n → y < n → Calls Try.prog fn (fs ++ (#[.int .i64 x, .int .i64 y] ++ cs)) W fun e W' => e = .returned (.bool (P x y)) ∧ Below W.heap.size W W'

set_option maxRecDepth 100000 in
set_option maxHeartbeats 4000000 in
theorem iforPairs (n : Nat) (hn : n ≤ 10) (w : World) (F : Nat → Nat → Int) (s : Value) (P : Nat → Nat → Bool) (hs : PairOk w w.heap.size s n P) :
    Calls Try.prog 74 #[.agg (iar 101 (sqC n F)), s] w fun e w' => e = .returned (.bool (allP n P)) ∧ Below w.heap.size w w' := by
  obtain ⟨fn, fs, cs, rfl, hcf, hc⟩ := hs
  have HS := Lib.hid hc
  have NO : Hid (∀ x y, x < n → y < n → P x y = false → allP n P = false) := fun x y hx hy h => allP_false hx hy h
  have YES : Hid ((∀ x y, x < n → y < n → P x y = true) → allP n P = true) := allP_true
  obtain ⟨V, hV⟩ : ∃ V, allP n P = V := ⟨_, rfl⟩
  rw [hV] at NO YES ⊢
  obtain ⟨b, hb⟩ : ∃ b, w.heap.size = b := ⟨_, rfl⟩
  have b1 : Below b w (w.alloc (.cells (iar 101 (sqC n F)) 42)) := (Below.refl _ _).alloc (by omega) _
  have A1 : SqAt (w.alloc (.cells (iar 101 (sqC n F)) 42)) b n F := by unfold SqAt Ia; rw [← hb]; exact heap_alloc_new _ _
  obtain ⟨w1, hw1⟩ : ∃ w1, w.alloc (.cells (iar 101 (sqC n F)) 42) = w1 := ⟨_, rfl⟩
  rw [hw1] at b1 A1
  have or1 := SqAt.order A1
  have HA := Lib.hid A1
  have HB := Lib.hid b1
  rw [hb] at HS ⊢
  clear hc hV A1 b1
  go_enter Try.func74, Try.ntmps74
  go_wp2
  clear or1 hw1 hb
  go_loopw [9] (fun i wr => ∃ x : Nat, x ≤ n ∧ i = .int .i64 x ∧ Hid (∀ a c, a < x → c < n → P a c = true) ∧ Hid (SqAt wr b n F) ∧ Hid (Below b w wr)) (fun i _ => n - (intOf i).toNat)
  case atStart => exact ⟨0, by omega, rfl, fun a c h => by omega, HA, HB⟩
  case round =>
    obtain ⟨x, hx, rfl, hP, hA, hBl⟩ := hrel
    by_cases c : x < n
    · have k1 : decide (x < n) = true := by simpa using c
      have k1' : decide ((x : Int) < (n : Int)) = true := decide_eq_true (by omega)
      have w3 := IntWalk.i64_in ((x : Int) + 1) (by omega)
      obtain ⟨wq, rfl⟩ : ∃ wq : World, wq = wr := ⟨_, rfl⟩
      have orq := SqAt.order hA.out
      go_wp2
      clear orq
      go_loopw [14] (fun i wr => ∃ y : Nat, y ≤ n ∧ i = .int .i64 y ∧ Hid (∀ c, c < y → P x c = true) ∧ Hid (SqAt wr b n F) ∧ Hid (Below b w wr)) (fun i _ => n - (intOf i).toNat)
      case atStart => exact ⟨0, by omega, rfl, fun c h => by omega, hA, hBl⟩
      case round =>
        obtain ⟨y, hy, rfl, hP2, hA2, hBl2⟩ := hrel
        by_cases c2 : y < n
        · have k2 : decide (y < n) = true := by simpa using c2
          have k2' : decide ((y : Int) < (n : Int)) = true := decide_eq_true (by omega)
          have w4 := IntWalk.i64_in ((y : Int) + 1) (by omega)
          have HC := Lib.hid (HS.out wr x y hBl2.out c c2)
          have lt := Ia.lt hA2.out
          cases hz : P x y with
          | true =>
            have P3 : Hid (∀ c, c < y + 1 → P x c = true) := fun k hk => by
              by_cases e : k = y
              · rw [e]; exact hz
              · exact hP2.out k (by omega)
            rw [hz] at HC
            clear hz
            go_wp2_with fail
            refine HC.out.mono ?_
            rintro e w5 ⟨rfl, b5⟩
            have A5 := Lib.hid (SqAt.below hA2.out b5 lt)
            have B5 : Hid (Below b w w5) := hBl2.out.trans (b5.mono (by omega))
            clear b5
            go_wp2
            go_roundw
            case rel => exact ⟨y + 1, by omega, by go_num, P3, A5, B5⟩
            case measure => simp [intOf]; omega
          | false =>
            have V2 := Lib.hid (NO.out x y c c2 hz)
            rw [hz] at HC
            clear hz
            go_wp2_with fail
            refine HC.out.mono ?_
            rintro e w5 ⟨rfl, b5⟩
            have B5 : Hid (Below b w w5) := hBl2.out.trans (b5.mono (by omega))
            clear b5
            go_wp2
            go_ret
            exact ⟨by rw [V2.out]; rfl, B5.out⟩
        · have k2 : decide (y < n) = false := by simpa using c2
          have k2' : decide ((y : Int) < (n : Int)) = false := decide_eq_false (by omega)
          obtain rfl : y = n := by omega
          have P3 : Hid (∀ a c, a < x + 1 → c < y → P a c = true) := fun a k ha hk => by
            by_cases e : a = x
            · rw [e]; exact hP2.out k hk
            · exact hP.out a k (by omega) hk
          go_wp2
          go_roundw
          case rel => exact ⟨x + 1, by omega, by go_num, P3, hA2, hBl2⟩
          case measure => simp [intOf]; omega
    · have k1 : decide (x < n) = false := by simpa using c
      have k1' : decide ((x : Int) < (n : Int)) = false := decide_eq_false (by omega)
      obtain rfl : x = n := by omega
      have V2 := Lib.hid (YES.out hP.out)
      go_wp2
      go_ret
      exact ⟨by rw [V2.out]; rfl, hBl.out⟩

set_option maxRecDepth 100000 in
set_option maxHeartbeats 4000000 in
theorem iassc1 (W : World) (b n : Nat) (hn : n ≤ 10) (F : Nat → Nat → Int) (hS : SqAt W b n F) (IQ : InSq n F) (x y : Nat) (hx : x < n) (hy : y < n) :
    Calls Try.prog 79 #[.int .i64 x, .int .i64 y, .pointer (some ⟨b, 0, none⟩)] W fun e W' => e = .returned (.bool (allN n (as3 F x y))) ∧ Below W.heap.size W W' := by
  have HQ := Lib.hid IQ
  have HA := Lib.hid hS
  have lt := Ia.lt hS
  have NO : Hid (∀ z, z < n → as3 F x y z = false → allN n (as3 F x y) = false) := fun z hz h => allN_false hz h
  have YES : Hid ((∀ z, z < n → as3 F x y z = true) → allN n (as3 F x y) = true) := allN_true
  have AS : Hid (∀ z, as3 F x y z = (F (F x y).toNat z == F x (F y z).toNat)) := fun z => rfl
  obtain ⟨V, hV⟩ : ∃ V, allN n (as3 F x y) = V := ⟨_, rfl⟩
  rw [hV] at NO YES ⊢
  have or0 := SqAt.order hS
  have x0 : (0 : Int) ≤ (x : Int) := by omega
  have x1 : (x : Int) < 10 := by omega
  have y0 : (0 : Int) ≤ (y : Int) := by omega
  have y1 : (y : Int) < 10 := by omega
  clear hS IQ hV
  go_enter Try.func79, Try.ntmps79
  go_wp2
  clear or0
  go_loopw [9] (fun i wr => ∃ z : Nat, z ≤ n ∧ i = .int .i64 z ∧ Hid (∀ c, c < z → as3 F x y c = true) ∧ Hid (SqAt wr b n F) ∧ Hid (Below W.heap.size W wr)) (fun i _ => n - (intOf i).toNat)
  case atStart => exact ⟨0, by omega, rfl, fun c h => by omega, HA, Below.refl _ _⟩
  case round =>
    obtain ⟨z, hz, rfl, hP, hA, hBl⟩ := hrel
    by_cases c : z < n
    · have k1 : decide (z < n) = true := by simpa using c
      have k1' : decide ((z : Int) < (n : Int)) = true := decide_eq_true (by omega)
      have w3 := IntWalk.i64_in ((z : Int) + 1) (by omega)
      have z0 : (0 : Int) ≤ (z : Int) := by omega
      have z1 : (z : Int) < 10 := by omega
      obtain ⟨wd, hwd⟩ : ∃ wd, wr.drew = wd := ⟨_, rfl⟩
      have D1 : SqAt wd b n F := by rw [← hwd]; exact hA.out
      have DA : Hid (SqAt wr.drew b n F) := hA.out
      have DB : Hid (Below W.heap.size W wr.drew) := hBl.out.drew
      have i1 := HQ.out x y hx hy
      have i2 := HQ.out y z hy c
      have ay := AS.out z
      have m1 := Ia.cell D1 (1 + x * 10 + y) (by omega)
      rw [sqC_at _ _ (by omega)] at m1
      have m3 := Ia.cell D1 (1 + y * 10 + z) (by omega)
      rw [sqC_at _ _ (by omega)] at m3
      obtain ⟨p, hp⟩ : ∃ p : Nat, F x y = p := ⟨(F x y).toNat, by omega⟩
      obtain ⟨q, hq⟩ : ∃ q : Nat, F y z = q := ⟨(F y z).toNat, by omega⟩
      rw [hp] at m1 ay i1
      rw [hq] at m3 ay i2
      rw [Int.toNat_natCast, Int.toNat_natCast] at ay
      have m2 := Ia.cell D1 (1 + p * 10 + z) (by omega)
      rw [sqC_at _ _ (by omega)] at m2
      have m4 := Ia.cell D1 (1 + x * 10 + q) (by omega)
      rw [sqC_at _ _ (by omega)] at m4
      obtain ⟨u, hu⟩ : ∃ u, F p z = u := ⟨_, rfl⟩
      obtain ⟨v, hv⟩ : ∃ v, F x q = v := ⟨_, rfl⟩
      rw [hu] at m2 ay
      rw [hv] at m4 ay
      have p0 : (0 : Int) ≤ (p : Int) := by omega
      have p1 : (p : Int) < 10 := by omega
      have q0 : (0 : Int) ≤ (q : Int) := by omega
      have q1 : (q : Int) < 10 := by omega
      have HS := Lib.hid ay
      clear D1 i1 i2 ay hp hq hu hv
      by_cases e : u = v
      · have t : (u != v) = false := by simp [e]
        have P3 : Hid (∀ c, c < z + 1 → as3 F x y c = true) := fun k hk => by
          by_cases e2 : k = z
          · rw [e2, HS.out]; simpa using e
          · exact hP.out k (by omega)
        clear e
        go_wp2
        refine wp_region_still_lit (by kernel_rfl) (by kernel_rfl) ?_
        change wpStill _ _ wr.drew _ _ _
        rw [hwd]
        repeat still_step
        refine wpStill_nil ?_
        clear hwd
        go_wp2
        go_roundw
        case rel => exact ⟨z + 1, by omega, by go_num, P3, DA, DB⟩
        case measure => simp [intOf]; omega
      · have t : (u != v) = true := by simpa using e
        have V2 := Lib.hid (NO.out z c (by rw [HS.out]; simpa using e))
        clear e
        go_wp2
        refine wp_region_still_lit (by kernel_rfl) (by kernel_rfl) ?_
        change wpStill _ _ wr.drew _ _ _
        rw [hwd]
        repeat still_step
        refine wpStill_nil ?_
        clear hwd
        go_wp2
        go_ret
        exact ⟨by rw [V2.out]; rfl, DB.out⟩
    · have k1 : decide (z < n) = false := by simpa using c
      have k1' : decide ((z : Int) < (n : Int)) = false := decide_eq_false (by omega)
      obtain rfl : z = n := by omega
      have V2 := Lib.hid (YES.out hP.out)
      go_wp2
      go_ret
      exact ⟨by rw [V2.out]; rfl, hBl.out⟩

set_option maxRecDepth 100000 in
set_option maxHeartbeats 4000000 in
theorem iassoc (n : Nat) (hn : n ≤ 10) (w : World) (F : Nat → Nat → Int) (IQ : InSq n F) :
    Calls Try.prog 56 #[.agg (iar 101 (sqC n F))] w fun e w' => e = .returned (.bool (assB n F)) ∧ Below w.heap.size w w' := by
  have hmf : ∀ (fn : Fn) (first cap : Array Value) (w : World), (Instr.makeFunc fn first cap).run Try.prog w = .ok (.func fn first cap) w := fun _ _ _ _ => rfl
  obtain ⟨b, hb⟩ : ∃ b, w.heap.size = b := ⟨_, rfl⟩
  have b1 : Below b w (w.alloc (.cells (iar 101 (sqC n F)) 42)) := (Below.refl _ _).alloc (by omega) _
  have A1 : SqAt (w.alloc (.cells (iar 101 (sqC n F)) 42)) b n F := by unfold SqAt Ia; rw [← hb]; exact heap_alloc_new _ _
  obtain ⟨w1, hw1⟩ : ∃ w1, w.alloc (.cells (iar 101 (sqC n F)) 42) = w1 := ⟨_, rfl⟩
  rw [hw1] at b1 A1
  have HF := Lib.hid (iforPairs n hn w1 F (.func (.func 79) #[] #[.pointer (some ⟨b, 0, none⟩)]) (fun x y => allN n (as3 F x y))
    ⟨_, _, _, rfl, enters_of Try.func79 (by kernel_rfl) rfl, fun W x y hW hx hy => iassc1 W b n hn F (SqAt.below A1 hW (Ia.lt A1)) IQ x y hx hy⟩)
  have X1 := Lib.hid A1
  have HB := Lib.hid b1
  have s1 := b1.size
  have ea : assB n F = allP n (fun x y => allN n (as3 F x y)) := rfl
  rw [hb, ea]
  clear A1 b1 ea
  go_enter Try.func56, Try.ntmps56
  go_wp2_with (refine wpList_load_row rfl 42 (.tmp 1) rfl _ rfl _ _ _ _ X1.out Try.underlying42 rfl (by rw [iar_size]; exact Try.infoSq) ?_)
  refine HF.out.mono ?_
  rintro e w2 ⟨rfl, b2⟩
  have B2 : Hid (Below b w w2) := HB.out.trans (b2.mono (by omega))
  clear b2
  go_wp2
  go_ret
  exact ⟨rfl, B2.out⟩

set_option maxRecDepth 100000 in
set_option maxHeartbeats 4000000 in
theorem ileft (n : Nat) (hn : n ≤ 10) (w : World) (F : Nat → Nat → Int) :
    Calls Try.prog 78 #[.agg (iar 101 (sqC n F))] w fun e w' => e = .returned (.tuple #[.int .i64 (optI (fstN n (lftB n F))), .bool (fstN n (lftB n F)).isSome]) ∧ Below w.heap.size w w' := by
  have NO : Hid (∀ e x, x < n → (F e x == ((x : Nat) : Int)) = false → lftB n F e = false) := fun e x hx h => allN_false hx h
  have YES : Hid (∀ e, (∀ x, x < n → (F e x == ((x : Nat) : Int)) = true) → lftB n F e = true) := fun e h => allN_true h
  have FN : Hid ((∀ k, k < n → lftB n F k = false) → fstN n (lftB n F) = none) := fstN_none
  have FS : Hid (∀ e, e < n → lftB n F e = true → (∀ k, k < e → lftB n F k = false) → fstN n (lftB n F) = some e) := fun e => fstN_some
  obtain ⟨V, hV⟩ : ∃ V, fstN n (lftB n F) = V := ⟨_, rfl⟩
  rw [hV] at FN FS ⊢
  obtain ⟨b, hb⟩ : ∃ b, w.heap.size = b := ⟨_, rfl⟩
  have b1 : Below b w (w.alloc (.cells (iar 101 (sqC n F)) 42)) := (Below.refl _ _).alloc (by omega) _
  have A1 : SqAt (w.alloc (.cells (iar 101 (sqC n F)) 42)) b n F := by unfold SqAt Ia; rw [← hb]; exact heap_alloc_new _ _
  obtain ⟨w1, hw1⟩ : ∃ w1, w.alloc (.cells (iar 101 (sqC n F)) 42) = w1 := ⟨_, rfl⟩
  rw [hw1] at b1 A1
  have or1 := SqAt.order A1
  have CE : Hid (∀ e x, e < n → x < n → w1.cell? ⟨b, 1 + e * 10 + x, none⟩ = some (.int .i64 (F e x))) := fun e x he hx => by
    have := Ia.cell A1 (1 + e * 10 + x) (by omega)
    rwa [sqC_at _ _ (by omega)] at this
  have HB := Lib.hid b1
  rw [hb]
  clear hV A1 b1
  go_enter Try.func78, Try.ntmps78
  go_wp2
  go_step3
  go_wp2
  go_step3
  go_wp2
  clear hw1 hb
  go_loopg [8] n (fun g i wr => ∃ e : Nat, e + g = n ∧ i = .int .i64 e ∧ Hid (∀ k, k < e → lftB n F k = false) ∧ w1 = wr)
  case atStart => exact ⟨0, by omega, rfl, fun k h => by omega, rfl⟩
  case round =>
    obtain ⟨e, he, rfl, hP, rfl⟩ := hrel
    obtain ⟨go, rfl⟩ : ∃ go : Nat, go = gk := ⟨_, rfl⟩
    by_cases c : e < n
    · have k1 : decide (e < n) = true := by simpa using c
      have k1' : decide ((e : Int) < (n : Int)) = true := decide_eq_true (by omega)
      have w3 := IntWalk.i64_in ((e : Int) + 1) (by omega)
      have e0 : (0 : Int) ≤ (e : Int) := by omega
      have e1 : (e : Int) < 10 := by omega
      go_wp2
      go_loopg [13] n (fun g i wr => ∃ x : Nat, x + g = n ∧ i = .int .i64 x ∧ Hid (∀ k, k < x → (F e k == ((k : Nat) : Int)) = true) ∧ w1 = wr)
      case atStart => exact ⟨0, by omega, rfl, fun k h => by omega, rfl⟩
      case round =>
        obtain ⟨x, hx, rfl, hP2, rfl⟩ := hrel
        by_cases c2 : x < n
        · have k2 : decide (x < n) = true := by simpa using c2
          have k2' : decide ((x : Int) < (n : Int)) = true := decide_eq_true (by omega)
          have w4 := IntWalk.i64_in ((x : Int) + 1) (by omega)
          have x0 : (0 : Int) ≤ (x : Int) := by omega
          have x1 : (x : Int) < 10 := by omega
          have m := CE.out e x c c2
          have NX := Lib.hid (NO.out e x c2)
          obtain ⟨u, hu⟩ : ∃ u, F e x = u := ⟨_, rfl⟩
          rw [hu] at m NX
          by_cases q : u = ((x : Nat) : Int)
          · have t : (u != ((x : Nat) : Int)) = false := by simp [q]
            have P3 : Hid (∀ k, k < x + 1 → (F e k == ((k : Nat) : Int)) = true) := fun k hk => by
              by_cases e2 : k = x
              · rw [e2, hu]; simpa using q
              · exact hP2.out k (by omega)
            clear q hu
            go_wp2
            go_roundg (gk - 1)
            case rel => exact ⟨x + 1, by omega, by go_num, P3, rfl⟩
            case measure => omega
          · have t : (u != ((x : Nat) : Int)) = true := by simpa using q
            have L := NX.out (by simpa using q)
            have P3 : Hid (∀ k, k < e + 1 → lftB n F k = false) := fun k hk => by
              by_cases e2 : k = e
              · rw [e2]; exact L
              · exact hP.out k (by omega)
            clear q hu L
            go_wp2
            go_roundg (go - 1)
            case rel => exact ⟨e + 1, by omega, by go_num, P3, rfl⟩
            case measure => omega
        · have k2 : decide (x < n) = false := by simpa using c2
          have k2' : decide ((x : Int) < (n : Int)) = false := decide_eq_false (by omega)
          obtain rfl : x = n := by omega
          have V2 := Lib.hid (FS.out e c (YES.out e hP2.out) hP.out)
          go_wp2
          try rw [Exit.noGoto_ret]
          go_ret2
          exact ⟨by rw [V2.out]; rfl, HB.out⟩
    · have k1 : decide (e < n) = false := by simpa using c
      have k1' : decide ((e : Int) < (n : Int)) = false := decide_eq_false (by omega)
      obtain rfl : e = n := by omega
      have V2 := Lib.hid (FN.out hP.out)
      go_wp2
      try rw [Exit.noGoto_ret]
      go_ret2
      exact ⟨by rw [V2.out]; rfl, HB.out⟩

set_option maxRecDepth 100000 in
set_option maxHeartbeats 4000000 in
theorem ihasLeft (n : Nat) (hn : n ≤ 10) (w : World) (F : Nat → Nat → Int) :
    Calls Try.prog 54 #[.agg (iar 101 (sqC n F))] w fun e w' => e = .returned (.bool (fstN n (lftB n F)).isSome) ∧ Below w.heap.size w w' := by
  obtain ⟨b, hb⟩ : ∃ b, w.heap.size = b := ⟨_, rfl⟩
  have b1 : Below b w (w.alloc (.cells (iar 101 (sqC n F)) 42)) := (Below.refl _ _).alloc (by omega) _
  have A1 : SqAt (w.alloc (.cells (iar 101 (sqC n F)) 42)) b n F := by unfold SqAt Ia; rw [← hb]; exact heap_alloc_new _ _
  obtain ⟨w1, hw1⟩ : ∃ w1, w.alloc (.cells (iar 101 (sqC n F)) 42) = w1 := ⟨_, rfl⟩
  rw [hw1] at b1 A1
  have HF := Lib.hid (ileft n hn w1 F)
  have X1 := Lib.hid A1
  have HB := Lib.hid b1
  have s1 := b1.size
  rw [hb]
  clear A1 b1
  go_enter Try.func54, Try.ntmps54
  go_wp2_with (refine wpList_load_row rfl 42 (.tmp 1) rfl _ rfl _ _ _ _ X1.out Try.underlying42 rfl (by rw [iar_size]; exact Try.infoSq) ?_)
  refine HF.out.mono ?_
  rintro e w2 ⟨rfl, b2⟩
  have B2 : Hid (Below b w w2) := HB.out.trans (b2.mono (by omega))
  clear b2
  go_wp2
  go_ret
  exact ⟨rfl, B2.out⟩

set_option maxRecDepth 100000 in
set_option maxHeartbeats 4000000 in
theorem ihasRight (n : Nat) (hn : n ≤ 10) (w : World) (F : Nat → Nat → Int) :
    Calls Try.prog 55 #[.agg (iar 101 (sqC n F))] w fun e w' => e = .returned (.bool (fstN n (rgtB n F)).isSome) ∧ Below w.heap.size w w' := by
  obtain ⟨b, hb⟩ : ∃ b, w.heap.size = b := ⟨_, rfl⟩
  have b1 : Below b w (w.alloc (.cells (iar 101 (sqC n F)) 42)) := (Below.refl _ _).alloc (by omega) _
  have A1 : SqAt (w.alloc (.cells (iar 101 (sqC n F)) 42)) b n F := by unfold SqAt Ia; rw [← hb]; exact heap_alloc_new _ _
  obtain ⟨w1, hw1⟩ : ∃ w1, w.alloc (.cells (iar 101 (sqC n F)) 42) = w1 := ⟨_, rfl⟩
  rw [hw1] at b1 A1
  have HT := Lib.hid (itrans n hn w1 F)
  have HF := Lib.hid (fun W => ihasLeft n hn W (sqF n (fun x y => F y x)))
  have er : fstN n (lftB n (sqF n (fun x y => F y x))) = fstN n (rgtB n F) := fstN_congr fun e he => lft_transposed he
  simp only [er] at HF
  have X1 := Lib.hid A1
  have HB := Lib.hid b1
  have s1 := b1.size
  rw [hb]
  clear A1 b1 er
  go_enter Try.func55, Try.ntmps55
  go_wp2_with (refine wpList_load_row rfl 42 (.tmp 1) rfl _ rfl _ _ _ _ X1.out Try.underlying42 rfl (by rw [iar_size]; exact Try.infoSq) ?_)
  refine HT.out.mono ?_
  rintro e w2 ⟨rfl, b2⟩
  have s2 := b2.size
  have B2 : Hid (Below b w w2) := HB.out.trans (b2.mono (by omega))
  clear b2
  go_wp2_with fail
  refine (HF.out w2).mono ?_
  rintro e w3 ⟨rfl, b3⟩
  have B3 : Hid (Below b w w3) := B2.out.trans (b3.mono (by omega))
  clear b3
  go_wp2
  go_ret
  exact ⟨rfl, B3.out⟩
end Go.Proofs.Ytigcgpgkpkoodab
