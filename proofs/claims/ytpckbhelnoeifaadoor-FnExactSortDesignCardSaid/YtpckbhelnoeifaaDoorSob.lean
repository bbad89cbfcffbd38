/- sort.Slice with a `less` that makes memory: insertionSort_func, siftDown_func, heapSort_func. -/
import Derived.Test.YtpckbhelnoeifaaDoorSoa
import Derived.Sort.WalkB2
import Derived.Sort.WalkB3
namespace Go.Proofs.YtpckbhelnoeifaaDoor
open Go.Shelf Go.RowKit Go.Lib Go.Sort
set_option linter.unusedVariables false
variable {P : Program} {ρ : Ren} {α : Type} [Inhabited α] {enc : α → Value} {lt : α → α → Bool} {g : Nat} {lb : Array Value} {sf : Nat} {sb : Array Value} {blk off n : Nat} {d : Array α} {w : World}

set_option maxHeartbeats 2000000 in
set_option maxRecDepth 1000000 in
theorem so_ins (L : LaysGg.n26 P ρ) (E : En P enc lt g lb sf sb blk off n d w) (a b : Nat) (hab : a ≤ b) (hb : b ≤ n) :
    Calls P (ρ.f 26) #[.agg #[.func (.func g) #[] lb, .func (.func sf) #[] sb], .int .i64 a, .int .i64 b] w fun e w' => e = .returned (.tuple #[]) ∧ St enc w blk off (Sort.insertionSort lt d a b) w' := by
  have mixed := L.mixed; have t0 := L.t0; have a0 := L.a0; have z0 := L.z0; have v0 := L.v0; have t3 := L.t3; have a3 := L.a3; have z3 := L.z3; have v3 := L.v3; have t4 := L.t4; have a4 := L.a4; have z4 := L.z4; have v4 := L.v4; have t26 := L.t26; have a26 := L.a26; have z26 := L.z26; have v26 := L.v26; have t37 := L.t37; have a37 := L.a37; have z37 := L.z37; have v37 := L.v37; have t44 := L.t44; have a44 := L.a44; have z44 := L.z44; have v44 := L.v44
  have u44 := run_underlying L.t44
  have eg := E.eg
  have hsz := E.hsz
  have S0 := E.box (.func (.func g) #[] lb) (.func (.func sf) #[] sb) (ρ.t 44)
  go_enter L.f26, BodyGg.n26_ntmps ρ
  go_wp2
  go_loopg [6] (b - a) (fun k vi wr => ∃ (i : Nat) (dk : Array α), vi = .int .i64 i ∧ a < i ∧ i ≤ b + 1 ∧ b - i ≤ k ∧ Sx enc blk off n (.func (.func g) #[] lb) (.func (.func sf) #[] sb) w.heap.size w dk wr ∧ Hid (insOuter lt a b i dk = insOuter lt a b (a + 1) d))
  case atStart => exact ⟨a + 1, d, by go_num, by omega, by omega, by omega, S0, rfl⟩
  case round =>
    obtain ⟨i, dk, rfl, hai, hib, hk, S, HO⟩ := hrel
    by_cases hlt : i < b
    · have hz : (i : Int) < (b : Int) := by omega
      go_wp2
      go_loopg [7] (i - a) (fun k vj wr2 => ∃ (j : Nat) (dj : Array α), vj = .int .i64 j ∧ a ≤ j ∧ j ≤ i ∧ j - a ≤ k ∧ Sx enc blk off n (.func (.func g) #[] lb) (.func (.func sf) #[] sb) w.heap.size w dj wr2 ∧ Hid (insInner lt a j dj = insInner lt a i dk))
      case atStart => exact ⟨i, dk, rfl, by omega, Nat.le_refl _, Nat.le_refl _, S, rfl⟩
      case round =>
        clear S S0
        obtain ⟨j, dj, rfl, haj, hji, hk2, S, HI⟩ := hrel
        have c0 := S.c0
        by_cases hja : a < j
        · have hjz : (a : Int) < (j : Int) := by omega
          cases hlv : lt dj[j]! dj[j - 1]! with
          | true =>
            have hl := E.lessAt S j (j - 1) (j : Int) ((j : Int) - 1) (by omega) (by omega) rfl (by omega) true hlv
            go_wp2_with (go_at_fn g; refine hl.mono ?_; rintro e w1 ⟨rfl, S1⟩; have c10 := S1.c0; have c11 := S1.c1; obtain ⟨w2, hs, S2⟩ := E.swapAt S1 j (j - 1) (j : Int) ((j : Int) - 1) (by omega) (by omega) rfl (by omega))
            go_roundg (j - 1 - a)
            case measure => omega
            case rel => exact ⟨j - 1, swp dj j (j - 1), by congr 1; omega, by omega, by omega, Nat.le_refl _, S2, (show Hid _ from by rw [← HI.out, insInner_go lt a j dj hja hlv]; exact rfl)⟩
          | false =>
            have hl := E.lessAt S j (j - 1) (j : Int) ((j : Int) - 1) (by omega) (by omega) rfl (by omega) false hlv
            go_wp2_with (go_at_fn g; refine hl.mono ?_; rintro e w1 ⟨rfl, S1⟩)
            go_roundg (b - (i + 1))
            case measure => omega
            case rel => exact ⟨i + 1, dj, by go_num, by omega, by omega, Nat.le_refl _, S1, (show Hid _ from by rw [← HO.out, insOuter_go _ _ _ _ _ hlt, ← HI.out, insInner_stop _ _ _ _ (Or.inr hlv)]; exact rfl)⟩
        · have hjz : ¬ (a : Int) < (j : Int) := by omega
          go_wp2
          go_roundg (b - (i + 1))
          case measure => omega
          case rel => exact ⟨i + 1, dj, by go_num, by omega, by omega, Nat.le_refl _, S, (show Hid _ from by rw [← HO.out, insOuter_go _ _ _ _ _ hlt, ← HI.out, insInner_stop _ _ _ _ (Or.inl (by omega))]; exact rfl)⟩
    · have hz : ¬ (i : Int) < (b : Int) := by omega
      go_wp2
      go_end0
      exact ⟨rfl, by unfold Sort.insertionSort; rw [← HO.out, insOuter_stop _ _ _ _ _ hlt]; exact S.st⟩

set_option maxHeartbeats 4000000 in
set_option maxRecDepth 1000000 in
theorem so_sift (L : LaysGg.n34 P ρ) (E : En P enc lt g lb sf sb blk off n d w) (lo hi first : Nat) (hlo : lo ≤ hi) (hb : first + hi ≤ n) :
    Calls P (ρ.f 34) #[.agg #[.func (.func g) #[] lb, .func (.func sf) #[] sb], .int .i64 lo, .int .i64 hi, .int .i64 first] w fun e w' => e = .returned (.tuple #[]) ∧ St enc w blk off (siftDown lt hi first lo d) w' := by
  have mixed := L.mixed; have t0 := L.t0; have a0 := L.a0; have z0 := L.z0; have v0 := L.v0; have t3 := L.t3; have a3 := L.a3; have z3 := L.z3; have v3 := L.v3; have t4 := L.t4; have a4 := L.a4; have z4 := L.z4; have v4 := L.v4; have t26 := L.t26; have a26 := L.a26; have z26 := L.z26; have v26 := L.v26; have t37 := L.t37; have a37 := L.a37; have z37 := L.z37; have v37 := L.v37; have t44 := L.t44; have a44 := L.a44; have z44 := L.z44; have v44 := L.v44
  have u44 := run_underlying L.t44
  have eg := E.eg
  have hsz := E.hsz
  have S0 := E.box (.func (.func g) #[] lb) (.func (.func sf) #[] sb) (ρ.t 44)
  go_enter L.f34, BodyGg.n34_ntmps ρ
  go_wp2
  go_loopg [8] (hi - lo) (fun k s8 wr => ∃ (root : Nat) (dk : Array α), s8 = .int .i64 root ∧ root ≤ hi ∧ hi - root ≤ k ∧ Sx enc blk off n (.func (.func g) #[] lb) (.func (.func sf) #[] sb) w.heap.size w dk wr ∧ Hid (siftDown lt hi first root dk = siftDown lt hi first lo d))
  case atStart => exact ⟨lo, d, rfl, hlo, Nat.le_refl _, S0, rfl⟩
  case round =>
    clear S0
    obtain ⟨root, dk, rfl, hr, hk, S, HE⟩ := hrel
    have c0 := S.c0
    by_cases h0 : hi ≤ 2 * root + 1
    · have h0z : (hi : Int) ≤ 2 * (root : Int) + 1 := by omega
      go_wp2
      go_end0
      exact ⟨rfl, by rw [← HE.out, sd_end lt dk h0]; exact S.st⟩
    · have h0z : ¬ ((hi : Int) ≤ 2 * (root : Int) + 1) := by omega
      by_cases h1 : 2 * root + 2 < hi
      · have h1z : 2 * (root : Int) + 1 + 1 < (hi : Int) := by omega
        cases hL : lt dk[first + (2 * root + 1)]! dk[first + (2 * root + 2)]! with
        | true =>
          have hl1 := E.lessAt S (first + (2 * root + 1)) (first + (2 * root + 2)) ((first : Int) + (2 * (root : Int) + 1)) ((first : Int) + (2 * (root : Int) + 1) + 1) (by omega) (by omega) (by omega) (by omega) true hL
          cases hG : lt dk[first + root]! dk[first + (2 * root + 2)]! with
          | true =>
            go_wp2_with (first
              | (go_at_fn g; refine hl2.mono ?_; rintro e w2 ⟨rfl, S2⟩; have c20 := S2.c0; have c21 := S2.c1; obtain ⟨w3, hs, S3⟩ := E.swapAt S2 (first + root) (first + (2 * root + 2)) ((first : Int) + (root : Int)) ((first : Int) + (2 * (root : Int) + 1 + 1)) (by omega) (by omega) (by omega) (by omega))
              | (go_at_fn g; refine hl1.mono ?_; rintro e w1 ⟨rfl, S1⟩; have c10 := S1.c0; have hl2 := E.lessAt S1 (first + root) (first + (2 * root + 2)) ((first : Int) + (root : Int)) ((first : Int) + (2 * (root : Int) + 1 + 1)) (by omega) (by omega) (by omega) (by omega) true hG))
            go_roundg (hi - (2 * root + 2))
            case measure => omega
            case rel => exact ⟨2 * root + 2, swp dk (first + root) (first + (2 * root + 2)), by go_num, by omega, Nat.le_refl _, S3, (show Hid _ from by rw [← HE.out, sd_right_go lt dk h1 hL hG]; exact rfl)⟩
          | false =>
            go_wp2_with (first
              | (go_at_fn g; refine hl2.mono ?_; rintro e w2 ⟨rfl, S2⟩)
              | (go_at_fn g; refine hl1.mono ?_; rintro e w1 ⟨rfl, S1⟩; have c10 := S1.c0; have hl2 := E.lessAt S1 (first + root) (first + (2 * root + 2)) ((first : Int) + (root : Int)) ((first : Int) + (2 * (root : Int) + 1 + 1)) (by omega) (by omega) (by omega) (by omega) false hG))
            (try simp only [Exit.inBlock, Exit.then]); refine bodyPost_ret (results_none rfl _ _ _) rfl ?_
            exact ⟨rfl, by rw [← HE.out, sd_right_stop lt dk h1 hL hG]; exact S2.st⟩
        | false =>
          have hl1 := E.lessAt S (first + (2 * root + 1)) (first + (2 * root + 2)) ((first : Int) + (2 * (root : Int) + 1)) ((first : Int) + (2 * (root : Int) + 1) + 1) (by omega) (by omega) (by omega) (by omega) false hL
          cases hG : lt dk[first + root]! dk[first + (2 * root + 1)]! with
          | true =>
            go_wp2_with (first
              | (go_at_fn g; refine hl2.mono ?_; rintro e w2 ⟨rfl, S2⟩; have c20 := S2.c0; have c21 := S2.c1; obtain ⟨w3, hs, S3⟩ := E.swapAt S2 (first + root) (first + (2 * root + 1)) ((first : Int) + (root : Int)) ((first : Int) + (2 * (root : Int) + 1)) (by omega) (by omega) (by omega) (by omega))
              | (go_at_fn g; refine hl1.mono ?_; rintro e w1 ⟨rfl, S1⟩; have c10 := S1.c0; have hl2 := E.lessAt S1 (first + root) (first + (2 * root + 1)) ((first : Int) + (root : Int)) ((first : Int) + (2 * (root : Int) + 1)) (by omega) (by omega) (by omega) (by omega) true hG))
            go_roundg (hi - (2 * root + 1))
            case measure => omega
            case rel => exact ⟨2 * root + 1, swp dk (first + root) (first + (2 * root + 1)), by go_num, by omega, Nat.le_refl _, S3, (show Hid _ from by rw [← HE.out, sd_left_go lt dk (by omega) (fun _ => hL) hG]; exact rfl)⟩
          | false =>
            go_wp2_with (first
              | (go_at_fn g; refine hl2.mono ?_; rintro e w2 ⟨rfl, S2⟩)
              | (go_at_fn g; refine hl1.mono ?_; rintro e w1 ⟨rfl, S1⟩; have c10 := S1.c0; have hl2 := E.lessAt S1 (first + root) (first + (2 * root + 1)) ((first : Int) + (root : Int)) ((first : Int) + (2 * (root : Int) + 1)) (by omega) (by omega) (by omega) (by omega) false hG))
            (try simp only [Exit.inBlock, Exit.then]); refine bodyPost_ret (results_none rfl _ _ _) rfl ?_
            exact ⟨rfl, by rw [← HE.out, sd_left_stop lt dk (by omega) (fun _ => hL) hG]; exact S2.st⟩
      · have h1z : ¬ (2 * (root : Int) + 1 + 1 < (hi : Int)) := by omega
        cases hG : lt dk[first + root]! dk[first + (2 * root + 1)]! with
        | true =>
          have hl2 := E.lessAt S (first + root) (first + (2 * root + 1)) ((first : Int) + (root : Int)) ((first : Int) + (2 * (root : Int) + 1)) (by omega) (by omega) (by omega) (by omega) true hG
          go_wp2_with (go_at_fn g; refine hl2.mono ?_; rintro e w2 ⟨rfl, S2⟩; have c20 := S2.c0; have c21 := S2.c1; obtain ⟨w3, hs, S3⟩ := E.swapAt S2 (first + root) (first + (2 * root + 1)) ((first : Int) + (root : Int)) ((first : Int) + (2 * (root : Int) + 1)) (by omega) (by omega) (by omega) (by omega))
          go_roundg (hi - (2 * root + 1))
          case measure => omega
          case rel => exact ⟨2 * root + 1, swp dk (first + root) (first + (2 * root + 1)), by go_num, by omega, Nat.le_refl _, S3, (show Hid _ from by rw [← HE.out, sd_left_go lt dk (by omega) (fun h => absurd h h1) hG]; exact rfl)⟩
        | false =>
          have hl2 := E.lessAt S (first + root) (first + (2 * root + 1)) ((first : Int) + (root : Int)) ((first : Int) + (2 * (root : Int) + 1)) (by omega) (by omega) (by omega) (by omega) false hG
          go_wp2_with (go_at_fn g; refine hl2.mono ?_; rintro e w2 ⟨rfl, S2⟩)
          (try simp only [Exit.inBlock, Exit.then]); refine bodyPost_ret (results_none rfl _ _ _) rfl ?_
          exact ⟨rfl, by rw [← HE.out, sd_left_stop lt dk (by omega) (fun h => absurd h h1) hG]; exact S2.st⟩

set_option maxHeartbeats 4000000 in
set_option maxRecDepth 1000000 in
theorem so_heap (L : LaysGg.n27 P ρ) (E : En P enc lt g lb sf sb blk off n d w) (a b : Nat) (hab : a ≤ b) (hb : b ≤ n) :
    Calls P (ρ.f 27) #[.agg #[.func (.func g) #[] lb, .func (.func sf) #[] sb], .int .i64 a, .int .i64 b] w fun e w' => e = .returned (.tuple #[]) ∧ St enc w blk off (heapSort lt d a b) w' := by
  have mixed := L.mixed; have t0 := L.t0; have a0 := L.a0; have z0 := L.z0; have v0 := L.v0; have t3 := L.t3; have a3 := L.a3; have z3 := L.z3; have v3 := L.v3; have t4 := L.t4; have a4 := L.a4; have z4 := L.z4; have v4 := L.v4; have t26 := L.t26; have a26 := L.a26; have z26 := L.z26; have v26 := L.v26; have t37 := L.t37; have a37 := L.a37; have z37 := L.z37; have v37 := L.v37; have t44 := L.t44; have a44 := L.a44; have z44 := L.z44; have v44 := L.v44
  have u44 := run_underlying L.t44
  have e34 : ∀ args w, (callFunc (ρ.f 34) args).run P w = .ok (.enter (ρ.f 34) args) w := enters_of L.f34 (by kernel_rfl) rfl
  have ecast : ((b - a : Nat) : Int) = (b : Int) - (a : Int) := by omega
  have hsz := E.hsz
  have S0 := E.box (.func (.func g) #[] lb) (.func (.func sf) #[] sb) (ρ.t 44)
  go_enter L.f27, BodyGg.n27_ntmps ρ
  go_wp2
  go_loopg [9] ((b - a - 1) / 2 + 1) (fun k s9 wr => s9 = .int .i64 ((k : Int) - 1) ∧ k ≤ (b - a - 1) / 2 + 1 ∧ ∃ (dk : Array α), Sx enc blk off n (.func (.func g) #[] lb) (.func (.func sf) #[] sb) w.heap.size w dk wr ∧
    Hid (heapBuild lt (b - a) a k dk = heapBuild lt (b - a) a ((b - a - 1) / 2 + 1) d))
  case atStart => exact ⟨by rw [half_start hab], Nat.le_refl _, d, S0, rfl⟩
  case round =>
    clear S0
    obtain ⟨rfl, hkk, dk, S, HE⟩ := hrel
    have c0 := S.c0
    have c1 := S.c1
    cases gk with
    | zero =>
      have HB : Hid (dk = heapBuild lt (b - a) a ((b - a - 1) / 2 + 1) d) := HE.out
      clear HE hkk
      go_wp2
      go_loopg [10] (b - a) (fun k s10 wr2 => s10 = .int .i64 ((k : Int) - 1) ∧ k ≤ b - a ∧ ∃ (dj : Array α), Sx enc blk off n (.func (.func g) #[] lb) (.func (.func sf) #[] sb) w.heap.size w dj wr2 ∧ Hid (heapPop lt a k dj = heapPop lt a (b - a) dk))
      case atStart => exact ⟨by rw [ecast], Nat.le_refl _, dk, S, rfl⟩
      case round =>
        clear S c0 c1
        obtain ⟨rfl, hkk, dj, S, HE2⟩ := hrel
        have c0 := S.c0
        have c1 := S.c1
        cases gk with
        | zero =>
          go_wp2
          go_end0
          have e : dj = heapSort lt d a b := by rw [heapSort, ← HB.out, ← HE2.out]; rfl
          rw [← e]
          exact ⟨rfl, S.st⟩
        | succ k =>
          obtain ⟨w2, hs, S2⟩ := E.swapAt S a (a + k) (a : Int) ((a : Int) + (k : Int)) (by omega) (by omega) rfl (by omega)
          have c20 := S2.c0
          have c21 := S2.c1
          have hcall := so_sift (P := P) (ρ := ρ) { L with } (E.at S2) 0 k a (Nat.zero_le _) (by omega)
          go_wp2_with (go_at_fn (ρ.f 34); refine hcall.mono ?_; rintro e w3 ⟨rfl, T3⟩)
          go_roundg k
          case measure => omega
          case rel =>
            have hss : (siftDown lt k a 0 (swp dj a (a + k))).size = (swp dj a (a + k)).size := size_siftDown lt _ _ _ _ _ (Nat.le_refl _)
            exact ⟨by simp, by omega, siftDown lt k a 0 (swp dj a (a + k)), S2.to T3 (hss.trans S2.hd), HE2⟩
    | succ k =>
      have hcall := so_sift (P := P) (ρ := ρ) { L with } (E.at S) k (b - a) a (by omega) (by omega)
      rw [ecast] at hcall
      go_wp2_with (go_at_fn (ρ.f 34); refine hcall.mono ?_; rintro e w3 ⟨rfl, T3⟩)
      go_roundg k
      case measure => omega
      case rel =>
        have hss : (siftDown lt (b - a) a k dk).size = dk.size := size_siftDown lt _ _ _ _ _ (Nat.le_refl _)
        exact ⟨by simp, by omega, siftDown lt (b - a) a k dk, S.to T3 (hss.trans S.hd), HE⟩
end Go.Proofs.YtpckbhelnoeifaaDoor
