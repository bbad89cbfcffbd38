/- Identities of quasigroups: the model. -/
import Derived.Test.YtigcgpgkpkoodabQgs
import Derived.Test.YtigcgpgkpkoodabIdm
import Derived.Test.YtigcgpgkpkoodabSqv
namespace Go.Proofs.Ytigcgpgkpkoodab
open Go.RowKit Go.Shelf
set_option linter.unusedVariables false

set_option maxRecDepth 100000 in
set_option maxHeartbeats 2000000 in
theorem sPairs3 (w : World) (v : Value) (xss : List (List Int)) (n : Nat) (hn : xss.length = n) (h1 : 1 ≤ n) (h10 : n ≤ 10) (hr : ∀ x, x < n → (xss.getD x []).length = n) (hv : RowsAt w v xss) (IQ : InSq n (cellF xss)) :
    Calls Try.prog 47 #[v, .int .i64 3] w fun r w' => r = .returned (.bool (allP n (isC (cellF xss)))) ∧ ∃ d, w' = w.drewN d := by
  obtain ⟨g, off, c, rfl, K⟩ := hv.look2 hn hr h1
  have HK := Lib.hid (fun x hx => K w (Below.refl _ _) x hx)
  obtain ⟨F, hF⟩ : ∃ F, cellF xss = F := ⟨_, rfl⟩
  rw [hF] at HK IQ ⊢
  have HQ := Lib.hid IQ
  have NO : Hid (∀ x y, x < n → y < n → isC F x y = false → allP n (isC F) = false) := fun x y hx hy h => allP_false hx hy h
  have YES : Hid ((∀ x y, x < n → y < n → isC F x y = true) → allP n (isC F) = true) := fun h => allP_true h
  have AS : Hid (∀ x y, isC F x y = (F x y == F y x)) := fun x y => rfl
  obtain ⟨V, hV⟩ : ∃ V, allP n (isC F) = V := ⟨_, rfl⟩
  rw [hV] at NO YES ⊢
  clear hv K hV hr hn hF IQ
  go_enter Try.func47, Try.ntmps47
  go_wp2
  go_loopw [6] (fun i wr => ∃ x : Nat, x ≤ n ∧ i = .int .i64 x ∧ Hid (∀ a b, a < x → b < n → isC F a b = true) ∧ ∃ d, wr = w.drewN d) (fun i _ => n - (intOf i).toNat)
  case atStart => exact ⟨0, by omega, rfl, fun a b h => by omega, 0, rfl⟩
  case round =>
    obtain ⟨x, hx, rfl, hP, d, rfl⟩ := hrel
    by_cases cx : x < n
    · have k1 : decide (x < n) = true := by simpa using cx
      have k1' : decide ((x : Int) < (n : Int)) = true := decide_eq_true (by omega)
      have wx := IntWalk.i64_in ((x : Int) + 1) (by omega)
      have x0 : (0 : Int) ≤ (x : Int) := by omega
      have x1 : (x : Int) < (n : Int) := by omega
      go_wp2
      go_loopw [7] (fun i wr => ∃ y : Nat, y ≤ n ∧ i = .int .i64 y ∧ Hid (∀ b, b < y → isC F x b = true) ∧ ∃ d, wr = w.drewN d) (fun i _ => n - (intOf i).toNat)
      case atStart => exact ⟨0, by omega, rfl, fun b h => by omega, _, rfl⟩
      case round =>
        obtain ⟨y, hy, rfl, hP2, d2, rfl⟩ := hrel
        by_cases cy : y < n
        · have k2 : decide (y < n) = true := by simpa using cy
          have k2' : decide ((y : Int) < (n : Int)) = true := decide_eq_true (by omega)
          have wy := IntWalk.i64_in ((y : Int) + 1) (by omega)
          have y0 : (0 : Int) ≤ (y : Int) := by omega
          have y1 : (y : Int) < (n : Int) := by omega
          obtain ⟨gx, ox, kx, hx1, hx2⟩ := HK.out x cx
          obtain ⟨gy, oy, ky, hy1, hy2⟩ := HK.out y cy
          have ay := AS.out x y
          have m1 := hx2 y cy
          have m2 := hy2 x cx
          obtain ⟨s, hs⟩ : ∃ s, F x y = s := ⟨_, rfl⟩
          obtain ⟨t, ht⟩ : ∃ t, F y x = t := ⟨_, rfl⟩
          rw [hs] at m1 ay
          rw [ht] at m2 ay
          clear hs ht
          have HY := Lib.hid ay
          clear ay hx2 hy2
          by_cases e : s = t
          · have tt : (s != t) = false := by simp [e]
            have P3 : Hid (∀ b, b < y + 1 → isC F x b = true) := fun b hb => by
              by_cases e2 : b = y
              · rw [e2, HY.out]; simpa using e
              · exact hP2.out b (by omega)
            clear e
            go_wp2
            go_quiet (fail)
            go_wp2
            go_roundw
            case rel => exact ⟨y + 1, by omega, by go_num, P3, _, by first | rfl | exact World.drewN_drewN _ _ _⟩
            case measure => simp [intOf]; omega
          · have tt : (s != t) = true := by simpa using e
            have V2 := Lib.hid (NO.out x y cx cy (by rw [HY.out]; simpa using e))
            clear e
            go_wp2
            go_quiet (fail)
            go_wp2
            go_ret
            exact ⟨by rw [V2.out]; rfl, _, by first | rfl | exact World.drewN_drewN _ _ _⟩
        · have k2 : decide (y < n) = false := by simpa using cy
          have k2' : decide ((y : Int) < (n : Int)) = false := decide_eq_false (by omega)
          obtain rfl : y = n := by omega
          have P3 : Hid (∀ a b, a < x + 1 → b < y → isC F a b = true) := fun a b ha hb => by
            by_cases e : a = x
            · rw [e]; exact hP2.out b hb
            · exact hP.out a b (by omega) hb
          go_wp2
          go_roundw
          case rel => exact ⟨x + 1, by omega, by go_num, P3, _, rfl⟩
          case measure => simp [intOf]; omega
    · have k1 : decide (x < n) = false := by simpa using cx
      have k1' : decide ((x : Int) < (n : Int)) = false := decide_eq_false (by omega)
      obtain rfl : x = n := by omega
      have V2 := Lib.hid (YES.out hP.out)
      go_wp2
      go_ret
      exact ⟨by rw [V2.out]; rfl, _, rfl⟩

set_option maxRecDepth 100000 in
set_option maxHeartbeats 2000000 in
theorem sPairs7 (w : World) (v : Value) (xss : List (List Int)) (n : Nat) (hn : xss.length = n) (h1 : 1 ≤ n) (h10 : n ≤ 10) (hr : ∀ x, x < n → (xss.getD x []).length = n) (hv : RowsAt w v xss) (IQ : InSq n (cellF xss)) :
    Calls Try.prog 47 #[v, .int .i64 7] w fun r w' => r = .returned (.bool (allP n (isS (cellF xss)))) ∧ ∃ d, w' = w.drewN d := by
  obtain ⟨g, off, c, rfl, K⟩ := hv.look2 hn hr h1
  have HK := Lib.hid (fun x hx => K w (Below.refl _ _) x hx)
  obtain ⟨F, hF⟩ : ∃ F, cellF xss = F := ⟨_, rfl⟩
  rw [hF] at HK IQ ⊢
  have HQ := Lib.hid IQ
  have NO : Hid (∀ x y, x < n → y < n → isS F x y = false → allP n (isS F) = false) := fun x y hx hy h => allP_false hx hy h
  have YES : Hid ((∀ x y, x < n → y < n → isS F x y = true) → allP n (isS F) = true) := fun h => allP_true h
  have AS : Hid (∀ x y, isS F x y = (F x (F y x).toNat == ((y : Nat) : Int))) := fun x y => rfl
  obtain ⟨V, hV⟩ : ∃ V, allP n (isS F) = V := ⟨_, rfl⟩
  rw [hV] at NO YES ⊢
  clear hv K hV hr hn hF IQ
  go_enter Try.func47, Try.ntmps47
  go_wp2
  go_loopw [6] (fun i wr => ∃ x : Nat, x ≤ n ∧ i = .int .i64 x ∧ Hid (∀ a b, a < x → b < n → isS F a b = true) ∧ ∃ d, wr = w.drewN d) (fun i _ => n - (intOf i).toNat)
  case atStart => exact ⟨0, by omega, rfl, fun a b h => by omega, 0, rfl⟩
  case round =>
    obtain ⟨x, hx, rfl, hP, d, rfl⟩ := hrel
    by_cases cx : x < n
    · have k1 : decide (x < n) = true := by simpa using cx
      have k1' : decide ((x : Int) < (n : Int)) = true := decide_eq_true (by omega)
      have wx := IntWalk.i64_in ((x : Int) + 1) (by omega)
      have x0 : (0 : Int) ≤ (x : Int) := by omega
      have x1 : (x : Int) < (n : Int) := by omega
      go_wp2
      go_loopw [7] (fun i wr => ∃ y : Nat, y ≤ n ∧ i = .int .i64 y ∧ Hid (∀ b, b < y → isS F x b = true) ∧ ∃ d, wr = w.drewN d) (fun i _ => n - (intOf i).toNat)
      case atStart => exact ⟨0, by omega, rfl, fun b h => by omega, _, rfl⟩
      case round =>
        obtain ⟨y, hy, rfl, hP2, d2, rfl⟩ := hrel
        by_cases cy : y < n
        · have k2 : decide (y < n) = true := by simpa using cy
          have k2' : decide ((y : Int) < (n : Int)) = true := decide_eq_true (by omega)
          have wy := IntWalk.i64_in ((y : Int) + 1) (by omega)
          have y0 : (0 : Int) ≤ (y : Int) := by omega
          have y1 : (y : Int) < (n : Int) := by omega
          obtain ⟨gx, ox, kx, hx1, hx2⟩ := HK.out x cx
          obtain ⟨gy, oy, ky, hy1, hy2⟩ := HK.out y cy
          have ay := AS.out x y
          have m1 := hy2 x cx
          have i1 := HQ.out y x cy cx
          obtain ⟨p, hp⟩ : ∃ p : Nat, F y x = p := ⟨(F y x).toNat, by omega⟩
          rw [hp] at m1 ay i1
          rw [Int.toNat_natCast] at ay
          have p0 : (0 : Int) ≤ (p : Int) := by omega
          have p1 : (p : Int) < (n : Int) := by omega
          have m2 := hx2 p (by omega)
          obtain ⟨s, hs⟩ : ∃ s, F x p = s := ⟨_, rfl⟩
          rw [hs] at m2 ay
          clear hs hp i1
          have HY := Lib.hid ay
          clear ay hx2 hy2
          by_cases e : s = ((y : Nat) : Int)
          · have tt : (s != ((y : Nat) : Int)) = false := by simp [e]
            have P3 : Hid (∀ b, b < y + 1 → isS F x b = true) := fun b hb => by
              by_cases e2 : b = y
              · rw [e2, HY.out]; simpa using e
              · exact hP2.out b (by omega)
            clear e
            go_wp2
            go_quiet (fail)
            go_wp2
            go_roundw
            case rel => exact ⟨y + 1, by omega, by go_num, P3, _, by first | rfl | exact World.drewN_drewN _ _ _⟩
            case measure => simp [intOf]; omega
          · have tt : (s != ((y : Nat) : Int)) = true := by simpa using e
            have V2 := Lib.hid (NO.out x y cx cy (by rw [HY.out]; simpa using e))
            clear e
            go_wp2
            go_quiet (fail)
            go_wp2
            go_ret
            exact ⟨by rw [V2.out]; rfl, _, by first | rfl | exact World.drewN_drewN _ _ _⟩
        · have k2 : decide (y < n) = false := by simpa using cy
          have k2' : decide ((y : Int) < (n : Int)) = false := decide_eq_false (by omega)
          obtain rfl : y = n := by omega
          have P3 : Hid (∀ a b, a < x + 1 → b < y → isS F a b = true) := fun a b ha hb => by
            by_cases e : a = x
            · rw [e]; exact hP2.out b hb
            · exact hP.out a b (by omega) hb
          go_wp2
          go_roundw
          case rel => exact ⟨x + 1, by omega, by go_num, P3, _, rfl⟩
          case measure => simp [intOf]; omega
    · have k1 : decide (x < n) = false := by simpa using cx
      have k1' : decide ((x : Int) < (n : Int)) = false := decide_eq_false (by omega)
      obtain rfl : x = n := by omega
      have V2 := Lib.hid (YES.out hP.out)
      go_wp2
      go_ret
      exact ⟨by rw [V2.out]; rfl, _, rfl⟩

set_option maxRecDepth 100000 in
set_option maxHeartbeats 2000000 in
theorem sDiag1 (w : World) (v : Value) (xss : List (List Int)) (n : Nat) (hn : xss.length = n) (h1 : 1 ≤ n) (h10 : n ≤ 10) (hr : ∀ x, x < n → (xss.getD x []).length = n) (hv : RowsAt w v xss) :
    Calls Try.prog 44 #[v, .int .i64 1] w fun r w' => r = .returned (.bool (allN n (fun x => (cellF xss x x == ((x : Nat) : Int))))) ∧ ∃ d, w' = w.drewN d := by
  obtain ⟨g, off, c, rfl, K⟩ := hv.look2 hn hr h1
  have HK := Lib.hid (fun x hx => K w (Below.refl _ _) x hx)
  obtain ⟨F, hF⟩ : ∃ F, cellF xss = F := ⟨_, rfl⟩
  rw [hF] at HK ⊢
  have NO : Hid (∀ x, x < n → ((F x x == ((x : Nat) : Int))) = false → allN n (fun x => (F x x == ((x : Nat) : Int))) = false) := fun x hx h => allN_false hx h
  have YES : Hid ((∀ x, x < n → ((F x x == ((x : Nat) : Int))) = true) → allN n (fun x => (F x x == ((x : Nat) : Int))) = true) := fun h => allN_true h
  obtain ⟨V, hV⟩ : ∃ V, allN n (fun x => (F x x == ((x : Nat) : Int))) = V := ⟨_, rfl⟩
  rw [hV] at NO YES ⊢
  clear hv K hV hr hn hF
  go_enter Try.func44, Try.ntmps44
  go_wp2
  go_loopw [5] (fun i wr => ∃ x : Nat, x ≤ n ∧ i = .int .i64 x ∧ Hid (∀ a, a < x → (fun x => (F x x == ((x : Nat) : Int))) a = true) ∧ ∃ d, wr = w.drewN d) (fun i _ => n - (intOf i).toNat)
  case atStart => exact ⟨0, by omega, rfl, fun a h => by omega, 0, rfl⟩
  case round =>
    obtain ⟨x, hx, rfl, hP, d, rfl⟩ := hrel
    by_cases cx : x < n
    · have k1 : decide (x < n) = true := by simpa using cx
      have k1' : decide ((x : Int) < (n : Int)) = true := decide_eq_true (by omega)
      have wx := IntWalk.i64_in ((x : Int) + 1) (by omega)
      have x0 : (0 : Int) ≤ (x : Int) := by omega
      have x1 : (x : Int) < (n : Int) := by omega
      have n0 : (0 : Int) < (n : Int) := by omega
      have NX := Lib.hid (NO.out x cx)
      obtain ⟨gx, ox, kx, hx1, hx2⟩ := HK.out x cx
      have m1 := hx2 x cx
      obtain ⟨s, hs⟩ : ∃ s, F x x = s := ⟨_, rfl⟩
      have HS := Lib.hid hs
      rw [hs] at m1
      clear hs hx2
      by_cases e : s = ((x : Nat) : Int)
      · have tt : (s != ((x : Nat) : Int)) = false := by simp [e]
        have P3 : Hid (∀ a, a < x + 1 → (fun x => (F x x == ((x : Nat) : Int))) a = true) := fun a ha => by
          by_cases e2 : a = x
          · rw [e2]; show ((F x x == ((x : Nat) : Int))) = true; rw [HS.out]; simpa using e
          · exact hP.out a (by omega)
        clear e
        go_wp2
        go_quiet (fail)
        go_wp2
        go_roundw
        case rel => exact ⟨x + 1, by omega, by go_num, P3, _, by first | rfl | exact World.drewN_drewN _ _ _⟩
        case measure => simp [intOf]; omega
      · have tt : (s != ((x : Nat) : Int)) = true := by simpa using e
        have V2 := Lib.hid (NX.out (by rw [HS.out]; simpa using e))
        clear e
        go_wp2
        go_quiet (fail)
        go_wp2
        go_ret
        exact ⟨by rw [V2.out]; rfl, _, by first | rfl | exact World.drewN_drewN _ _ _⟩
    · have k1 : decide (x < n) = false := by simpa using cx
      have k1' : decide ((x : Int) < (n : Int)) = false := decide_eq_false (by omega)
      obtain rfl : x = n := by omega
      have V2 := Lib.hid (YES.out hP.out)
      go_wp2
      go_ret
      exact ⟨by rw [V2.out]; rfl, _, rfl⟩

set_option maxRecDepth 100000 in
set_option maxHeartbeats 2000000 in
theorem sDiag2 (w : World) (v : Value) (xss : List (List Int)) (n : Nat) (hn : xss.length = n) (h1 : 1 ≤ n) (h10 : n ≤ 10) (hr : ∀ x, x < n → (xss.getD x []).length = n) (hv : RowsAt w v xss) :
    Calls Try.prog 44 #[v, .int .i64 2] w fun r w' => r = .returned (.bool (allN n (fun x => (cellF xss x x == cellF xss 0 0)))) ∧ ∃ d, w' = w.drewN d := by
  obtain ⟨g, off, c, rfl, K⟩ := hv.look2 hn hr h1
  have HK := Lib.hid (fun x hx => K w (Below.refl _ _) x hx)
  obtain ⟨F, hF⟩ : ∃ F, cellF xss = F := ⟨_, rfl⟩
  rw [hF] at HK ⊢
  have NO : Hid (∀ x, x < n → ((F x x == F 0 0)) = false → allN n (fun x => (F x x == F 0 0)) = false) := fun x hx h => allN_false hx h
  have YES : Hid ((∀ x, x < n → ((F x x == F 0 0)) = true) → allN n (fun x => (F x x == F 0 0)) = true) := fun h => allN_true h
  obtain ⟨V, hV⟩ : ∃ V, allN n (fun x => (F x x == F 0 0)) = V := ⟨_, rfl⟩
  rw [hV] at NO YES ⊢
  clear hv K hV hr hn hF
  go_enter Try.func44, Try.ntmps44
  go_wp2
  go_loopw [5] (fun i wr => ∃ x : Nat, x ≤ n ∧ i = .int .i64 x ∧ Hid (∀ a, a < x → (fun x => (F x x == F 0 0)) a = true) ∧ ∃ d, wr = w.drewN d) (fun i _ => n - (intOf i).toNat)
  case atStart => exact ⟨0, by omega, rfl, fun a h => by omega, 0, rfl⟩
  case round =>
    obtain ⟨x, hx, rfl, hP, d, rfl⟩ := hrel
    by_cases cx : x < n
    · have k1 : decide (x < n) = true := by simpa using cx
      have k1' : decide ((x : Int) < (n : Int)) = true := decide_eq_true (by omega)
      have wx := IntWalk.i64_in ((x : Int) + 1) (by omega)
      have x0 : (0 : Int) ≤ (x : Int) := by omega
      have x1 : (x : Int) < (n : Int) := by omega
      have n0 : (0 : Int) < (n : Int) := by omega
      have NX := Lib.hid (NO.out x cx)
      obtain ⟨gx, ox, kx, hx1, hx2⟩ := HK.out x cx
      have m1 := hx2 x cx
      obtain ⟨s, hs⟩ : ∃ s, F x x = s := ⟨_, rfl⟩
      have HS := Lib.hid hs
      rw [hs] at m1
      obtain ⟨g0, o0, k0, h01, h02⟩ := HK.out 0 (by omega)
      have m2 := h02 0 (by omega)
      obtain ⟨t, ht⟩ : ∃ t, F 0 0 = t := ⟨_, rfl⟩
      have HT := Lib.hid ht
      rw [ht] at m2
      rw [Nat.add_zero] at m2 h01
      clear ht h02
      clear hs hx2
      by_cases e : s = t
      · have tt : (s != t) = false := by simp [e]
        have P3 : Hid (∀ a, a < x + 1 → (fun x => (F x x == F 0 0)) a = true) := fun a ha => by
          by_cases e2 : a = x
          · rw [e2]; show ((F x x == F 0 0)) = true; rw [HS.out, HT.out]; simpa using e
          · exact hP.out a (by omega)
        clear e
        go_wp2
        go_quiet (fail)
        go_wp2
        go_roundw
        case rel => exact ⟨x + 1, by omega, by go_num, P3, _, by first | rfl | exact World.drewN_drewN _ _ _⟩
        case measure => simp [intOf]; omega
      · have tt : (s != t) = true := by simpa using e
        have V2 := Lib.hid (NX.out (by rw [HS.out, HT.out]; simpa using e))
        clear e
        go_wp2
        go_quiet (fail)
        go_wp2
        go_ret
        exact ⟨by rw [V2.out]; rfl, _, by first | rfl | exact World.drewN_drewN _ _ _⟩
    · have k1 : decide (x < n) = false := by simpa using cx
      have k1' : decide ((x : Int) < (n : Int)) = false := decide_eq_false (by omega)
      obtain rfl : x = n := by omega
      have V2 := Lib.hid (YES.out hP.out)
      go_wp2
      go_ret
      exact ⟨by rw [V2.out]; rfl, _, rfl⟩

set_option maxRecDepth 100000 in
set_option maxHeartbeats 4000000 in
theorem sSome_true (w : World) (v : Value) (xss : List (List Int)) (n : Nat) (hn : xss.length = n) (h10 : n ≤ 10) (hr : ∀ x, x < n → (xss.getD x []).length = n) (hv : RowsAt w v xss) :
    Calls Try.prog 45 #[v, .bool true] w fun r w' => r = .returned (.bool (fstN n (lftB n (cellF xss))).isSome) ∧ w' = w := by
  have HU := Lib.hid (fun e he => sUnit_true w v xss n hn h10 hr hv e he)
  have NO : Hid ((∀ k, k < n → lftB n (cellF xss) k = false) → fstN n (lftB n (cellF xss)) = none) := fstN_none
  have YES : Hid (∀ e, e < n → lftB n (cellF xss) e = true → (∀ k, k < e → lftB n (cellF xss) k = false) → fstN n (lftB n (cellF xss)) = some e) := fun e => fstN_some
  obtain ⟨V, hV⟩ : ∃ V, fstN n (lftB n (cellF xss)) = V := ⟨_, rfl⟩
  rw [hV] at NO YES ⊢
  obtain ⟨va, vk, rfl, -, -⟩ := hv.cellsOf
  rw [hn] at HU ⊢
  clear hv hV hr hn
  go_enter Try.func45, Try.ntmps45
  go_wp2
  go_loop [5] (fun i => ∃ x : Nat, x ≤ n ∧ i = .int .i64 x ∧ Hid (∀ k, k < x → lftB n (cellF xss) k = false)) (fun i => n - (intOf i).toNat)
  case atStart => exact ⟨0, by omega, rfl, fun k h => by omega⟩
  case round =>
    obtain ⟨x, hx, rfl, hP⟩ := hrel
    by_cases c1 : x < n
    · have k1 : decide (x < n) = true := by simpa using c1
      have k1' : decide ((x : Int) < (n : Int)) = true := decide_eq_true (by omega)
      have w3 := IntWalk.i64_in ((x : Int) + 1) (by omega)
      have H1 := Lib.hid (HU.out x c1)
      have Y1 := Lib.hid (fun h => YES.out x c1 h hP.out)
      have N1 : Hid (lftB n (cellF xss) x = false → ∀ k, k < x + 1 → lftB n (cellF xss) k = false) := fun h k hk => by
        by_cases e : k = x
        · rw [e]; exact h
        · exact hP.out k (by omega)
      obtain ⟨b, hb⟩ : ∃ b, lftB n (cellF xss) x = b := ⟨_, rfl⟩
      rw [hb] at H1 Y1 N1
      clear hb
      cases b with
      | true =>
        have V2 := Lib.hid (Y1.out rfl)
        go_wp2_with fail
        refine H1.out.mono ?_
        rintro e w2 ⟨rfl, rfl⟩
        go_wp2
        go_ret
        exact ⟨by rw [V2.out]; rfl, rfl⟩
      | false =>
        have P2 := Lib.hid (N1.out rfl)
        go_wp2_with fail
        refine H1.out.mono ?_
        rintro e w2 ⟨rfl, rfl⟩
        go_wp2
        go_round
        case rel => exact ⟨x + 1, by omega, by go_num, P2⟩
        case measure => simp [intOf]; omega
    · have k1 : decide (x < n) = false := by simpa using c1
      have k1' : decide ((x : Int) < (n : Int)) = false := decide_eq_false (by omega)
      obtain rfl : x = n := by omega
      have V2 := Lib.hid (NO.out hP.out)
      go_wp2
      go_ret
      exact ⟨by rw [V2.out]; rfl, rfl⟩

set_option maxRecDepth 100000 in
set_option maxHeartbeats 4000000 in
theorem sSome_false (w : World) (v : Value) (xss : List (List Int)) (n : Nat) (hn : xss.length = n) (h10 : n ≤ 10) (hr : ∀ x, x < n → (xss.getD x []).length = n) (hv : RowsAt w v xss) :
    Calls Try.prog 45 #[v, .bool false] w fun r w' => r = .returned (.bool (fstN n (rgtB n (cellF xss))).isSome) ∧ w' = w := by
  have HU := Lib.hid (fun e he => sUnit_false w v xss n hn h10 hr hv e he)
  have NO : Hid ((∀ k, k < n → rgtB n (cellF xss) k = false) → fstN n (rgtB n (cellF xss)) = none) := fstN_none
  have YES : Hid (∀ e, e < n → rgtB n (cellF xss) e = true → (∀ k, k < e → rgtB n (cellF xss) k = false) → fstN n (rgtB n (cellF xss)) = some e) := fun e => fstN_some
  obtain ⟨V, hV⟩ : ∃ V, fstN n (rgtB n (cellF xss)) = V := ⟨_, rfl⟩
  rw [hV] at NO YES ⊢
  obtain ⟨va, vk, rfl, -, -⟩ := hv.cellsOf
  rw [hn] at HU ⊢
  clear hv hV hr hn
  go_enter Try.func45, Try.ntmps45
  go_wp2
  go_loop [5] (fun i => ∃ x : Nat, x ≤ n ∧ i = .int .i64 x ∧ Hid (∀ k, k < x → rgtB n (cellF xss) k = false)) (fun i => n - (intOf i).toNat)
  case atStart => exact ⟨0, by omega, rfl, fun k h => by omega⟩
  case round =>
    obtain ⟨x, hx, rfl, hP⟩ := hrel
    by_cases c1 : x < n
    · have k1 : decide (x < n) = true := by simpa using c1
      have k1' : decide ((x : Int) < (n : Int)) = true := decide_eq_true (by omega)
      have w3 := IntWalk.i64_in ((x : Int) + 1) (by omega)
      have H1 := Lib.hid (HU.out x c1)
      have Y1 := Lib.hid (fun h => YES.out x c1 h hP.out)
      have N1 : Hid (rgtB n (cellF xss) x = false → ∀ k, k < x + 1 → rgtB n (cellF xss) k = false) := fun h k hk => by
        by_cases e : k = x
        · rw [e]; exact h
        · exact hP.out k (by omega)
      obtain ⟨b, hb⟩ : ∃ b, rgtB n (cellF xss) x = b := ⟨_, rfl⟩
      rw [hb] at H1 Y1 N1
      clear hb
      cases b with
      | true =>
        have V2 := Lib.hid (Y1.out rfl)
        go_wp2_with fail
        refine H1.out.mono ?_
        rintro e w2 ⟨rfl, rfl⟩
        go_wp2
        go_ret
        exact ⟨by rw [V2.out]; rfl, rfl⟩
      | false =>
        have P2 := Lib.hid (N1.out rfl)
        go_wp2_with fail
        refine H1.out.mono ?_
        rintro e w2 ⟨rfl, rfl⟩
        go_wp2
        go_round
        case rel => exact ⟨x + 1, by omega, by go_num, P2⟩
        case measure => simp [intOf]; omega
    · have k1 : decide (x < n) = false := by simpa using c1
      have k1' : decide ((x : Int) < (n : Int)) = false := decide_eq_false (by omega)
      obtain rfl : x = n := by omega
      have V2 := Lib.hid (NO.out hP.out)
      go_wp2
      go_ret
      exact ⟨by rw [V2.out]; rfl, rfl⟩

/-- l08Holds: one function for all eight identities. -/
theorem sHolds (w : World) (v : Value) (xss : List (List Int)) (n : Nat) (hn : xss.length = n) (h1 : 1 ≤ n) (h10 : n ≤ 10) (hr : ∀ x, x < n → (xss.getD x []).length = n) (hv : RowsAt w v xss) (IQ : InSq n (cellF xss)) (k : Nat) (k1 : 1 ≤ k) (k8 : k ≤ 8) :
    Calls Try.prog 26 #[v, .int .i64 (k : Int)] w fun r w' => r = .returned (.bool (idB n (cellF xss) k)) ∧ Below w.heap.size w w' := by
  have HP3 := Lib.hid (sPairs3 w v xss n hn h1 h10 hr hv IQ)
  have HP7 := Lib.hid (fun W (hW : RowsAt W v xss) => sPairs7 W v xss n hn h1 h10 hr hW IQ)
  have HD1 := Lib.hid (sDiag1 w v xss n hn h1 h10 hr hv)
  have HD2 := Lib.hid (sDiag2 w v xss n hn h1 h10 hr hv)
  have HST := Lib.hid (sSome_true w v xss n hn h10 hr hv)
  have HSF := Lib.hid (sSome_false w v xss n hn h10 hr hv)
  have HAS := Lib.hid (sAssoc w v xss n hn h1 h10 hr hv IQ)
  have HV := Lib.hid (fun d => hv.drewN d)
  have e1 := diag1 n (cellF xss)
  have e2 := diag2 n (cellF xss) h1
  rw [← e1] at HD1
  rw [← e2] at HD2
  obtain ⟨va, vk, rfl, -, -⟩ := hv.cellsOf
  clear hv hr hn e1 e2 IQ
  rcases (by omega : k = 1 ∨ k = 2 ∨ k = 3 ∨ k = 4 ∨ k = 5 ∨ k = 6 ∨ k = 7 ∨ k = 8) with rfl | rfl | rfl | rfl | rfl | rfl | rfl | rfl
  · rw [id1]
    change Calls Try.prog 26 #[_, .int .i64 1] _ _
    go_enter Try.func26, Try.ntmps26
    go_wp2_with fail
    refine HD1.out.mono ?_
    rintro e w1 ⟨rfl, d, rfl⟩
    go_wp2
    go_ret
    exact ⟨rfl, below_drewN (Below.refl _ _) _⟩
  · rw [id2]
    change Calls Try.prog 26 #[_, .int .i64 2] _ _
    go_enter Try.func26, Try.ntmps26
    go_wp2_with fail
    refine HD2.out.mono ?_
    rintro e w1 ⟨rfl, d, rfl⟩
    go_wp2
    go_ret
    exact ⟨rfl, below_drewN (Below.refl _ _) _⟩
  · rw [id3]
    change Calls Try.prog 26 #[_, .int .i64 3] _ _
    go_enter Try.func26, Try.ntmps26
    go_wp2_with fail
    refine HP3.out.mono ?_
    rintro e w1 ⟨rfl, d, rfl⟩
    go_wp2
    go_ret
    exact ⟨rfl, below_drewN (Below.refl _ _) _⟩
  · rw [id4]
    change Calls Try.prog 26 #[_, .int .i64 4] _ _
    go_enter Try.func26, Try.ntmps26
    go_wp2_with fail
    refine HST.out.mono ?_
    rintro e w1 ⟨rfl, rfl⟩
    go_wp2
    go_ret
    exact ⟨rfl, Below.refl _ _⟩
  · rw [id5]
    change Calls Try.prog 26 #[_, .int .i64 5] _ _
    go_enter Try.func26, Try.ntmps26
    go_wp2_with fail
    refine HSF.out.mono ?_
    rintro e w1 ⟨rfl, rfl⟩
    go_wp2
    go_ret
    exact ⟨rfl, Below.refl _ _⟩
  · rw [id6]
    change Calls Try.prog 26 #[_, .int .i64 6] _ _
    go_enter Try.func26, Try.ntmps26
    go_wp2_with fail
    refine HAS.out.mono ?_
    rintro e w1 ⟨rfl, b1⟩
    have B1 := Lib.hid b1
    clear b1
    go_wp2
    go_ret
    exact ⟨rfl, B1.out⟩
  · rw [id7]
    change Calls Try.prog 26 #[_, .int .i64 7] _ _
    go_enter Try.func26, Try.ntmps26
    go_wp2_with fail
    refine (HP7.out w (HV.out 0)).mono ?_
    rintro e w1 ⟨rfl, d, rfl⟩
    go_wp2
    go_ret
    exact ⟨rfl, below_drewN (Below.refl _ _) _⟩
  · rw [id8]
    change Calls Try.prog 26 #[_, .int .i64 8] _ _
    obtain ⟨c, hc⟩ : ∃ c, allP n (isC (cellF xss)) = c := ⟨_, rfl⟩
    obtain ⟨z, hz⟩ : ∃ z, allP n (isS (cellF xss)) = z := ⟨_, rfl⟩
    rw [hc] at HP3 ⊢
    simp only [hz] at HP7 ⊢
    clear hc hz
    cases c with
    | false =>
      rw [Bool.false_and]
      go_enter Try.func26, Try.ntmps26
      go_wp2_with fail
      refine HP3.out.mono ?_
      rintro e w1 ⟨rfl, d, rfl⟩
      go_wp2
      go_ret
      exact ⟨rfl, below_drewN (Below.refl _ _) _⟩
    | true =>
      rw [Bool.true_and]
      go_enter Try.func26, Try.ntmps26
      go_wp2_with fail
      refine HP3.out.mono ?_
      rintro e w1 ⟨rfl, d, rfl⟩
      go_wp2_with fail
      refine (HP7.out _ (HV.out d)).mono ?_
      rintro e w2 ⟨rfl, d2, rfl⟩
      go_wp2
      go_ret
      exact ⟨rfl, below_drewN (Below.refl _ _) _⟩

set_option maxRecDepth 100000 in
set_option maxHeartbeats 2000000 in
theorem sIdentitiesOf (xss : List (List Int)) (hx : SmallLL xss) (W : World) (v : Value) (hv : RowsAt W v xss) :
    Calls Try.prog 8 #[v] W fun e w' => ∃ r, e = .returned (.tuple #[r, .int .i64 (IdentitiesOf_1 xss)]) ∧ IntsAt w' r (IdentitiesOf_0 xss) ∧ Below W.heap.size W w' := by
  have HS := Lib.hid (sSq W v xss hv)
  cases hp : sqB xss with
  | false =>
    obtain ⟨va, vk, rfl, -, -⟩ := hv.cellsOf
    have V : Hid (IdentitiesOf_0 xss = [] ∧ IdentitiesOf_1 xss = 1) := by unfold Hid IdentitiesOf_0 IdentitiesOf_1; rw [hp]; exact ⟨rfl, rfl⟩
    rw [hp] at HS
    clear hp hv hx
    go_enter Try.func8, Try.ntmps8
    go_wp2_with fail
    refine HS.out.mono ?_
    rintro e w1 ⟨rfl, b1⟩
    have B1 := Lib.hid b1
    clear b1
    go_wp2
    go_ret2
    exact ⟨_, by rw [V.out.2]; rfl, by rw [V.out.1]; exact nilAt _, B1.out⟩
  | true =>
    have V : Hid (IdentitiesOf_0 xss = idsL xss.length (cellF xss) 9 ∧ IdentitiesOf_1 xss = 0) := by unfold Hid IdentitiesOf_0 IdentitiesOf_1; rw [hp]; exact ⟨rfl, rfl⟩
    have S := of_sqB hp
    rw [hp] at HS
    have nhi := S.hi
    have nlo := S.lo
    have IQ := S.inSq
    have RL := Lib.hid S.rowLen
    have HV := Lib.hid (fun V' (h : Below W.heap.size W V') => hv.below h (Nat.le_refl _))
    obtain ⟨va, vk, rfl, -, -⟩ := hv.cellsOf
    obtain ⟨n, hn⟩ : ∃ n, xss.length = n := ⟨_, rfl⟩
    rw [hn] at nhi nlo IQ RL
    simp only [hn] at V HV HS ⊢
    have HH := Lib.hid (fun W' (h : Below W.heap.size W W') k k1 k8 => sHolds W' _ xss n hn nlo nhi RL.out (HV.out W' h) IQ k k1 k8)
    obtain ⟨F, hF⟩ : ∃ F, cellF xss = F := ⟨_, rfl⟩
    simp only [hF] at HH V
    have LY := Lib.hid (fun k (h : idB n F k = true) => ids_yes h)
    have LN := Lib.hid (fun k (h : idB n F k = false) => ids_no h)
    have L1 := Lib.hid (ids_one n F)
    have LL := Lib.hid (fun k => fls_len k (idB n F))
    obtain ⟨B, hB⟩ : ∃ B, W.heap.size = B := ⟨_, rfl⟩
    have HB := Lib.hid hB
    simp only [hB] at HH HS
    clear hp hv hx S hn hF IQ HV
    go_enter Try.func8, Try.ntmps8
    go_wp2_with fail
    refine HS.out.mono ?_
    rintro e w1 ⟨rfl, b1⟩
    have sw : B ≤ w1.heap.size := by rw [← hB]; exact b1.size
    have M0 : Hid (Below B W (w1.alloc (.cells #[] 2))) := b1.alloc (by omega) _
    have R0 : Hid (Ints (w1.alloc (.cells #[] 2)) B (.slice (some ⟨w1.heap.size, 0, none⟩) 0 0) (idsL n F 1)) := by
      rw [L1.out]; exact World.ownsRow_lit w1 #[] 0 sw (by decide) rfl
    have z0 : B ≤ (w1.alloc (.cells #[] 2)).heap.size := by rw [World.size_alloc]; omega
    clear b1 HS
    go_wp2
    obtain ⟨wo, hwo⟩ : ∃ wo, w1.alloc (.cells #[] 2) = wo := ⟨_, rfl⟩
    rw [hwo] at M0 R0 z0 ⊢
    clear hwo hB sw
    go_loopw [4, 5] (fun rv i wr => ∃ k : Nat, 1 ≤ k ∧ k ≤ 9 ∧ i = .int .i64 k ∧ Hid (Ints wr B rv (idsL n F k)) ∧ Hid (Below B W wr) ∧ B ≤ wr.heap.size) (fun _ i _ => 9 - (intOf i).toNat)
    case atStart => exact ⟨1, by omega, by omega, rfl, R0, M0, z0⟩
    case round =>
      obtain ⟨k, hk1, hk9, rfl, hR, hM, hz⟩ := hrel
      by_cases c : k ≤ 8
      · have t1 : decide ((k : Int) ≤ 8) = true := decide_eq_true (by omega)
        have t1' : decide (k ≤ 8) = true := decide_eq_true c
        have wk := IntWalk.i64_in ((k : Int) + 1) (by omega)
        have H1 := Lib.hid (HH.out wr hM.out k hk1 c)
        have Y1 := Lib.hid (LY.out k)
        have N1 := Lib.hid (LN.out k)
        obtain ⟨t, ht⟩ : ∃ t, idB n F k = t := ⟨_, rfl⟩
        rw [ht] at H1 Y1 N1
        have ln : (idsL n F k).length < 1000000000000 := by have := LL.out k; unfold idsL; omega
        clear ht
        go_wp2_with fail
        refine H1.out.mono ?_
        rintro e w2 ⟨rfl, b2⟩
        have s2 := b2.size
        have M2 := Lib.hid (hM.out.trans (b2.mono hz))
        have R2 := Lib.hid (hR.out.below b2 (Nat.le_refl _))
        have z2 : B ≤ w2.heap.size := by omega
        clear b2
        cases t with
        | false =>
          have R3 : Hid (Ints w2 B u4 (idsL n F (k + 1))) := by rw [← N1.out rfl]; exact R2.out
          go_wp2
          go_roundw
          case rel => exact ⟨k + 1, by omega, by omega, by go_num, R3, M2, z2⟩
          case measure => simp [intOf]; omega
        | true =>
          have Y2 := Lib.hid (Y1.out rfl)
          go_wp2_with (at_builtin; refine wpList_push w2 (by rfl) _ _ (by rfl) B _ _ (by rfl) R2.out (k : Int) _ (by rfl) ln z2 ?_; intro v' w3 hn hb; have HN := Lib.hid hn; have HB3 := Lib.hid hb; clear hn hb)
          go_roundw
          case rel => exact ⟨k + 1, by omega, by omega, by go_num, by unfold Hid; rw [← Y2.out]; exact HN.out, M2.out.trans HB3.out, Nat.le_trans z2 HB3.out.size⟩
          case measure => simp [intOf]; omega
      · have t1 : decide ((k : Int) ≤ 8) = false := decide_eq_false (by omega)
        have t1' : decide (k ≤ 8) = false := decide_eq_false c
        obtain rfl : k = 9 := by omega
        go_wp2
        go_ret2
        exact ⟨_, by rw [V.out.2]; rfl, by rw [V.out.1]; exact hR.out.at, by rw [HB.out]; exact hM.out⟩
end Go.Proofs.Ytigcgpgkpkoodab
