/- Quasigroups: the model's units and associativity. -/
import Derived.Test.YtigcgpgkpkoodabQg
import Derived.StillTailTactics
namespace Go.Proofs.Ytigcgpgkpkoodab
open Go.RowKit Go.Shelf
set_option linter.unusedVariables false

theorem RowsAt.look2 {w : World} {v : Value} {xss : List (List Int)} {n : Nat} (h : RowsAt w v xss) (hn : xss.length = n) (hr : ∀ x, x < n → (xss.getD x []).length = n) (h1 : 1 ≤ n) :
    ∃ g off c, v = .slice (some ⟨g, off, none⟩) n c ∧ ∀ W, Below w.heap.size w W → ∀ x, x < n → ∃ g2 off2 c2, W.cell? ⟨g, off + x, none⟩ = some (.slice (some ⟨g2, off2, none⟩) n c2) ∧ ∀ y, y < n → W.cell? ⟨g2, off2 + y, none⟩ = some (.int .i64 (cellF xss x y)) := by
  obtain ⟨a, c, e, K⟩ := h.look hn hr
  obtain ⟨g, off, _, _, _, e1, -, -⟩ := K w (Below.refl _ _) 0 0 (by omega) (by omega)
  subst e1
  refine ⟨g, off, c, e, fun W hb x hx => ?_⟩
  obtain ⟨g', off', g2, off2, c2, e2, m1, m2⟩ := K W hb x 0 hx (by omega)
  simp only [Option.some.injEq, Addr.mk.injEq] at e2
  obtain ⟨rfl, rfl, -⟩ := e2
  refine ⟨g2, off2, c2, m1, fun y hy => ?_⟩
  obtain ⟨g'', off'', g3, off3, c3, e3, m3, m4⟩ := K W hb x y hx hy
  simp only [Option.some.injEq, Addr.mk.injEq] at e3
  obtain ⟨rfl, rfl, -⟩ := e3
  rw [m1] at m3
  simp only [Option.some.injEq, Value.slice.injEq, Addr.mk.injEq] at m3
  obtain ⟨⟨rfl, rfl, -⟩, -, rfl⟩ := m3
  exact m4

set_option maxRecDepth 100000 in
set_option maxHeartbeats 4000000 in
theorem sUnit_true (w : World) (v : Value) (xss : List (List Int)) (n : Nat) (hn : xss.length = n) (h10 : n ≤ 10) (hr : ∀ x, x < n → (xss.getD x []).length = n) (hv : RowsAt w v xss) (e : Nat) (he : e < n) :
    Calls Try.prog 72 #[v, .int .i64 e, .bool true] w fun r w' => r = .returned (.bool (lftB n (cellF xss) e)) ∧ w' = w := by
  obtain ⟨g, off, c, rfl, K⟩ := hv.look2 hn hr (by omega)
  have HK := Lib.hid (fun x hx => K w (Below.refl _ _) x hx)
  have NO : Hid (∀ x, x < n → (cellF xss e x == ((x : Nat) : Int)) = false → lftB n (cellF xss) e = false) := fun x hx h => allN_false hx h
  have YES : Hid ((∀ x, x < n → (cellF xss e x == ((x : Nat) : Int)) = true) → lftB n (cellF xss) e = true) := fun h => allN_true h
  obtain ⟨V, hV⟩ : ∃ V, lftB n (cellF xss) e = V := ⟨_, rfl⟩
  rw [hV] at NO YES ⊢
  have e0 : (0 : Int) ≤ (e : Int) := by omega
  have e1 : (e : Int) < (n : Int) := by omega
  clear hv K hV hr hn
  go_enter Try.func72, Try.ntmps72
  go_wp2
  go_loop [7] (fun i => ∃ x : Nat, x ≤ n ∧ i = .int .i64 x ∧ Hid (∀ x', x' < x → (cellF xss e x' == ((x' : Nat) : Int)) = true)) (fun i => n - (intOf i).toNat)
  case atStart => exact ⟨0, by omega, rfl, fun k h => by omega⟩
  case round =>
    obtain ⟨x, hx, rfl, hP⟩ := hrel
    by_cases c1 : x < n
    · have k1 : decide (x < n) = true := by simpa using c1
      have k1' : decide ((x : Int) < (n : Int)) = true := decide_eq_true (by omega)
      have w3 := IntWalk.i64_in ((x : Int) + 1) (by omega)
      have x0 : (0 : Int) ≤ (x : Int) := by omega
      have x1 : (x : Int) < (n : Int) := by omega
      obtain ⟨g2, off2, c2, m1, m2⟩ := HK.out e (by omega)
      have m3 := m2 x (by omega)
      have NX := Lib.hid (NO.out x c1)
      obtain ⟨u, hu⟩ : ∃ u, cellF xss e x = u := ⟨_, rfl⟩
      rw [hu] at m3 NX
      clear m2
      by_cases q : u = ((x : Nat) : Int)
      · have t : (u != ((x : Nat) : Int)) = false := by simp [q]
        have P3 : Hid (∀ x', x' < x + 1 → (cellF xss e x' == ((x' : Nat) : Int)) = true) := fun k hk => by
          by_cases e2 : k = x
          · rw [e2, hu]; simpa using q
          · exact hP.out k (by omega)
        clear q hu
        go_wp2
        go_round
        case rel => exact ⟨x + 1, by omega, by go_num, P3⟩
        case measure => simp [intOf]; omega
      · have t : (u != ((x : Nat) : Int)) = true := by simpa using q
        have V2 := Lib.hid (NX.out (by simpa using q))
        clear q hu
        go_wp2
        go_ret
        exact ⟨by rw [V2.out]; rfl, rfl⟩
    · have k1 : decide (x < n) = false := by simpa using c1
      have k1' : decide ((x : Int) < (n : Int)) = false := decide_eq_false (by omega)
      obtain rfl : x = n := by omega
      have V2 := Lib.hid (YES.out hP.out)
      go_wp2
      go_ret
      exact ⟨by rw [V2.out]; rfl, rfl⟩

set_option maxRecDepth 100000 in
set_option maxHeartbeats 4000000 in
theorem sUnit_false (w : World) (v : Value) (xss : List (List Int)) (n : Nat) (hn : xss.length = n) (h10 : n ≤ 10) (hr : ∀ x, x < n → (xss.getD x []).length = n) (hv : RowsAt w v xss) (e : Nat) (he : e < n) :
    Calls Try.prog 72 #[v, .int .i64 e, .bool false] w fun r w' => r = .returned (.bool (rgtB n (cellF xss) e)) ∧ w' = w := by
  obtain ⟨g, off, c, rfl, K⟩ := hv.look2 hn hr (by omega)
  have HK := Lib.hid (fun x hx => K w (Below.refl _ _) x hx)
  have NO : Hid (∀ x, x < n → (cellF xss x e == ((x : Nat) : Int)) = false → rgtB n (cellF xss) e = false) := fun x hx h => allN_false hx h
  have YES : Hid ((∀ x, x < n → (cellF xss x e == ((x : Nat) : Int)) = true) → rgtB n (cellF xss) e = true) := fun h => allN_true h
  obtain ⟨V, hV⟩ : ∃ V, rgtB n (cellF xss) e = V := ⟨_, rfl⟩
  rw [hV] at NO YES ⊢
  have e0 : (0 : Int) ≤ (e : Int) := by omega
  have e1 : (e : Int) < (n : Int) := by omega
  clear hv K hV hr hn
  go_enter Try.func72, Try.ntmps72
  go_wp2
  go_loop [7] (fun i => ∃ x : Nat, x ≤ n ∧ i = .int .i64 x ∧ Hid (∀ x', x' < x → (cellF xss x' e == ((x' : Nat) : Int)) = true)) (fun i => n - (intOf i).toNat)
  case atStart => exact ⟨0, by omega, rfl, fun k h => by omega⟩
  case round =>
    obtain ⟨x, hx, rfl, hP⟩ := hrel
    by_cases c1 : x < n
    · have k1 : decide (x < n) = true := by simpa using c1
      have k1' : decide ((x : Int) < (n : Int)) = true := decide_eq_true (by omega)
      have w3 := IntWalk.i64_in ((x : Int) + 1) (by omega)
      have x0 : (0 : Int) ≤ (x : Int) := by omega
      have x1 : (x : Int) < (n : Int) := by omega
      obtain ⟨g2, off2, c2, m1, m2⟩ := HK.out x (by omega)
      have m3 := m2 e (by omega)
      have NX := Lib.hid (NO.out x c1)
      obtain ⟨u, hu⟩ : ∃ u, cellF xss x e = u := ⟨_, rfl⟩
      rw [hu] at m3 NX
      clear m2
      by_cases q : u = ((x : Nat) : Int)
      · have t : (u != ((x : Nat) : Int)) = false := by simp [q]
        have P3 : Hid (∀ x', x' < x + 1 → (cellF xss x' e == ((x' : Nat) : Int)) = true) := fun k hk => by
          by_cases e2 : k = x
          · rw [e2, hu]; simpa using q
          · exact hP.out k (by omega)
        clear q hu
        go_wp2
        go_round
        case rel => exact ⟨x + 1, by omega, by go_num, P3⟩
        case measure => simp [intOf]; omega
      · have t : (u != ((x : Nat) : Int)) = true := by simpa using q
        have V2 := Lib.hid (NX.out (by simpa using q))
        clear q hu
        go_wp2
        go_ret
        exact ⟨by rw [V2.out]; rfl, rfl⟩
    · have k1 : decide (x < n) = false := by simpa using c1
      have k1' : decide ((x : Int) < (n : Int)) = false := decide_eq_false (by omega)
      obtain rfl : x = n := by omega
      have V2 := Lib.hid (YES.out hP.out)
      go_wp2
      go_ret
      exact ⟨by rw [V2.out]; rfl, rfl⟩

set_option maxRecDepth 100000 in
set_option maxHeartbeats 8000000 in
theorem sAssoc (w : World) (v : Value) (xss : List (List Int)) (n : Nat) (hn : xss.length = n) (h1 : 1 ≤ n) (h10 : n ≤ 10) (hr : ∀ x, x < n → (xss.getD x []).length = n) (hv : RowsAt w v xss) (IQ : InSq n (cellF xss)) :
    Calls Try.prog 46 #[v] w fun r w' => r = .returned (.bool (assB n (cellF xss))) ∧ Below w.heap.size w w' := by
  obtain ⟨g, off, c, rfl, K⟩ := hv.look2 hn hr h1
  have HK := Lib.hid K
  obtain ⟨F, hF⟩ : ∃ F, cellF xss = F := ⟨_, rfl⟩
  rw [hF] at HK IQ ⊢
  have HQ := Lib.hid IQ
  have NO : Hid (∀ x y z, x < n → y < n → z < n → as3 F x y z = false → assB n F = false) := fun x y z hx hy hz h => assB_false hx hy hz h
  have YES : Hid ((∀ x y z, x < n → y < n → z < n → as3 F x y z = true) → assB n F = true) := fun h => assB_true h
  have AS : Hid (∀ x y z, as3 F x y z = (F (F x y).toNat z == F x (F y z).toNat)) := fun x y z => rfl
  obtain ⟨V, hV⟩ : ∃ V, assB n F = V := ⟨_, rfl⟩
  rw [hV] at NO YES ⊢
  clear hv K hV hr hn hF IQ
  go_enter Try.func46, Try.ntmps46
  go_wp2
  go_loopw [4] (fun i wr => ∃ x : Nat, x ≤ n ∧ i = .int .i64 x ∧ Hid (∀ a b c, a < x → b < n → c < n → as3 F a b c = true) ∧ Hid (Below w.heap.size w wr)) (fun i _ => n - (intOf i).toNat)
  case atStart => exact ⟨0, by omega, rfl, fun a b c h => by omega, Below.refl _ _⟩
  case round =>
    obtain ⟨x, hx, rfl, hP, hBl⟩ := hrel
    by_cases cx : x < n
    · have k1 : decide (x < n) = true := by simpa using cx
      have k1' : decide ((x : Int) < (n : Int)) = true := decide_eq_true (by omega)
      have wx := IntWalk.i64_in ((x : Int) + 1) (by omega)
      have x0 : (0 : Int) ≤ (x : Int) := by omega
      have x1 : (x : Int) < (n : Int) := by omega
      obtain ⟨wq, rfl⟩ : ∃ wq : World, wq = wr := ⟨_, rfl⟩
      go_wp2
      go_loopw [5] (fun i wr => ∃ y : Nat, y ≤ n ∧ i = .int .i64 y ∧ Hid (∀ b c, b < y → c < n → as3 F x b c = true) ∧ Hid (Below w.heap.size w wr)) (fun i _ => n - (intOf i).toNat)
      case atStart => exact ⟨0, by omega, rfl, fun b c h => by omega, hBl⟩
      case round =>
        obtain ⟨y, hy, rfl, hP2, hBl2⟩ := hrel
        by_cases cy : y < n
        · have k2 : decide (y < n) = true := by simpa using cy
          have k2' : decide ((y : Int) < (n : Int)) = true := decide_eq_true (by omega)
          have wy := IntWalk.i64_in ((y : Int) + 1) (by omega)
          have y0 : (0 : Int) ≤ (y : Int) := by omega
          have y1 : (y : Int) < (n : Int) := by omega
          obtain ⟨wp, rfl⟩ : ∃ wp : World, wp = wr := ⟨_, rfl⟩
          go_wp2
          go_loopw [6] (fun i wr => ∃ z : Nat, z ≤ n ∧ i = .int .i64 z ∧ Hid (∀ c, c < z → as3 F x y c = true) ∧ Hid (Below w.heap.size w wr)) (fun i _ => n - (intOf i).toNat)
          case atStart => exact ⟨0, by omega, rfl, fun c h => by omega, hBl2⟩
          case round =>
            obtain ⟨z, hz, rfl, hP3, hBl3⟩ := hrel
            by_cases cz : z < n
            · have k3 : decide (z < n) = true := by simpa using cz
              have k3' : decide ((z : Int) < (n : Int)) = true := decide_eq_true (by omega)
              have wz := IntWalk.i64_in ((z : Int) + 1) (by omega)
              have z0 : (0 : Int) ≤ (z : Int) := by omega
              have z1 : (z : Int) < (n : Int) := by omega
              have DB : Hid (Below w.heap.size w wr.drew) := hBl3.out.drew
              obtain ⟨wd, hwd⟩ : ∃ wd, wr.drew = wd := ⟨_, rfl⟩
              have DW : Below w.heap.size w wd := by rw [← hwd]; exact hBl3.out.drew
              have i1 := HQ.out x y cx cy
              have i2 := HQ.out y z cy cz
              have ay := AS.out x y z
              obtain ⟨p, hp⟩ : ∃ p : Nat, F x y = p := ⟨(F x y).toNat, by omega⟩
              obtain ⟨q, hq⟩ : ∃ q : Nat, F y z = q := ⟨(F y z).toNat, by omega⟩
              have p1 : (p : Int) < (n : Int) := by omega
              have q1 : (q : Int) < (n : Int) := by omega
              have p0 : (0 : Int) ≤ (p : Int) := by omega
              have q0 : (0 : Int) ≤ (q : Int) := by omega
              obtain ⟨gx, ox, kx, hx1, hx2⟩ := HK.out wd DW x cx
              obtain ⟨gy, oy, ky, hy1, hy2⟩ := HK.out wd DW y cy
              obtain ⟨gp, op, kp, hp1, hp2⟩ := HK.out wd DW p (by omega)
              have m1 := hx2 y cy
              have m2 := hp2 z cz
              have m3 := hy2 z cz
              have m4 := hx2 q (by omega)
              rw [hp] at m1 ay
              rw [hq] at m3 ay
              rw [Int.toNat_natCast, Int.toNat_natCast] at ay
              obtain ⟨s, hs⟩ : ∃ s, F p z = s := ⟨_, rfl⟩
              obtain ⟨t, ht⟩ : ∃ t, F x q = t := ⟨_, rfl⟩
              rw [hs] at m2 ay
              rw [ht] at m4 ay
              have HY := Lib.hid ay
              clear i1 i2 ay hp hq hs ht hx2 hy2 hp2 DW
              by_cases e : s = t
              · have tt : (s != t) = false := by simp [e]
                have P4 : Hid (∀ c, c < z + 1 → as3 F x y c = true) := fun k hk => by
                  by_cases e2 : k = z
                  · rw [e2, HY.out]; simpa using e
                  · exact hP3.out k (by omega)
                clear e
                go_wp2
                refine wp_region_still_lit (by kernel_rfl) (by kernel_rfl) ?_
                change wpStill _ _ wr.drew _ _ _
                rw [hwd]
                repeat still_step
                refine wpStill_nil ?_
                clear hwd
                go_wp2
                go_roundw
                case rel => exact ⟨z + 1, by omega, by go_num, P4, DB⟩
                case measure => simp [intOf]; omega
              · have tt : (s != t) = true := by simpa using e
                have V2 := Lib.hid (NO.out x y z cx cy cz (by rw [HY.out]; simpa using e))
                clear e
                go_wp2
                refine wp_region_still_lit (by kernel_rfl) (by kernel_rfl) ?_
                change wpStill _ _ wr.drew _ _ _
                rw [hwd]
                repeat still_step
                refine wpStill_nil ?_
                clear hwd
                go_wp2
                go_ret
                exact ⟨by rw [V2.out]; rfl, DB.out⟩
            · have k3 : decide (z < n) = false := by simpa using cz
              have k3' : decide ((z : Int) < (n : Int)) = false := decide_eq_false (by omega)
              obtain rfl : z = n := by omega
              have P3 : Hid (∀ b c, b < y + 1 → c < z → as3 F x b c = true) := fun b c hb hc => by
                by_cases e : b = y
                · rw [e]; exact hP3.out c hc
                · exact hP2.out b c (by omega) hc
              go_wp2
              go_roundw
              case rel => exact ⟨y + 1, by omega, by go_num, P3, hBl3⟩
              case measure => simp [intOf]; omega
        · have k2 : decide (y < n) = false := by simpa using cy
          have k2' : decide ((y : Int) < (n : Int)) = false := decide_eq_false (by omega)
          obtain rfl : y = n := by omega
          have P3 : Hid (∀ a b c, a < x + 1 → b < y → c < y → as3 F a b c = true) := fun a b c ha hb hc => by
            by_cases e : a = x
            · rw [e]; exact hP2.out b c hb hc
            · exact hP.out a b c (by omega) hb hc
          go_wp2
          go_roundw
          case rel => exact ⟨x + 1, by omega, by go_num, P3, hBl2⟩
          case measure => simp [intOf]; omega
    · have k1 : decide (x < n) = false := by simpa using cx
      have k1' : decide ((x : Int) < (n : Int)) = false := decide_eq_false (by omega)
      obtain rfl : x = n := by omega
      have V2 := Lib.hid (YES.out hP.out)
      go_wp2
      go_ret
      exact ⟨by rw [V2.out]; rfl, hBl.out⟩
end Go.Proofs.Ytigcgpgkpkoodab
