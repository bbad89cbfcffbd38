/- sort.Slice with a `less` that makes memory: partitionEqual_func, partition_func. -/
import Derived.Test.YtdhlnagkhkcoiaaDoorSoa
import Derived.Sort.WalkC4
namespace Go.Proofs.YtdhlnagkhkcoiaaDoor
open Go.Shelf Go.RowKit Go.Lib Go.Sort
set_option linter.unusedVariables false
variable {P : Program} {ρ : Ren} {α : Type} [Inhabited α] {enc : α → Value} {lt : α → α → Bool} {g : Nat} {lb : Array Value} {sf : Nat} {sb : Array Value} {blk off n : Nat} {d : Array α} {w : World}

set_option maxHeartbeats 6400000 in
set_option maxRecDepth 1000000 in
theorem so_partEq (L : LaysGg.n32 P ρ) (E : En P enc lt g lb sf sb blk off n d w) (a b pivot : Nat) (hap : a ≤ pivot) (hpb : pivot < b) (hb : b ≤ n) :
    Calls P (ρ.f 32) #[.agg #[.func (.func g) #[] lb, .func (.func sf) #[] sb], .int .i64 a, .int .i64 b, .int .i64 pivot] w fun e w' =>
      e = .returned (.int .i64 (Sort.partitionEqual lt d a b pivot).1) ∧ St enc w blk off (Sort.partitionEqual lt d a b pivot).2 w' := by
  have mixed := L.mixed; have t0 := L.t0; have a0 := L.a0; have z0 := L.z0; have v0 := L.v0; have t3 := L.t3; have a3 := L.a3; have z3 := L.z3; have v3 := L.v3; have t4 := L.t4; have a4 := L.a4; have z4 := L.z4; have v4 := L.v4; have t26 := L.t26; have a26 := L.a26; have z26 := L.z26; have v26 := L.v26; have t37 := L.t37; have a37 := L.a37; have z37 := L.z37; have v37 := L.v37; have t44 := L.t44; have a44 := L.a44; have z44 := L.z44; have v44 := L.v44
  have u44 := run_underlying L.t44
  have eg := E.eg
  have hsz := E.hsz
  have S0 := E.box (.func (.func g) #[] lb) (.func (.func sf) #[] sb) (ρ.t 44)
  obtain ⟨w1, hs0, S1⟩ := E.swapAt S0 a pivot (a : Int) (pivot : Int) (by omega) (by omega) rfl rfl
  clear S0
  go_enter L.f32, BodyGg.n32_ntmps ρ
  go_wp2
  go_loopg [9, 10] (b - a) (fun k vi vj wr => ∃ (i j : Nat) (dk : Array α), vi = .int .i64 i ∧ vj = .int .i64 j ∧ a < i ∧ i ≤ j + 1 ∧ j < b ∧ j + 1 - i ≤ k ∧ Sx enc blk off n (.func (.func g) #[] lb) (.func (.func sf) #[] sb) w.heap.size w dk wr ∧ Hid (partEqLoop lt a i j dk = partEqLoop lt a (a + 1) (b - 1) (swp d a pivot)))
  case atStart => exact ⟨a + 1, b - 1, swp d a pivot, by go_num, by go_num, by omega, by omega, by omega, by omega, S1, rfl⟩
  case round =>
    clear S1 hs0
    obtain ⟨i, j, dk, rfl, rfl, hai, hij, hjb, hk, S, AE⟩ := hrel
    go_wp2
    go_loopg [9] (j + 1 - i) (fun k2 vi wq => ∃ (i2 : Nat), vi = .int .i64 i2 ∧ i ≤ i2 ∧ i2 ≤ j + 1 ∧ j + 1 - i2 ≤ k2 ∧ Sx enc blk off n (.func (.func g) #[] lb) (.func (.func sf) #[] sb) w.heap.size w dk wq ∧ Hid (scanUp (fun x => !lt dk[a]! x) dk j i2 = scanUp (fun x => !lt dk[a]! x) dk j i))
    case atStart => exact ⟨i, rfl, Nat.le_refl _, hij, Nat.le_refl _, S, rfl⟩
    case round =>
      obtain ⟨i2, rfl, hii, hij2, hk2, U, hsc⟩ := hrel
      have u0 := U.c0
      by_cases hle : i2 ≤ j
      · have hlez : (i2 : Int) ≤ (j : Int) := by omega
        cases hlv : lt dk[a]! dk[i2]! with
        | false =>
          have hl := E.lessAt U a i2 (a : Int) (i2 : Int) (by omega) (by omega) rfl rfl false hlv
          go_wp2_with (go_at_fn g; refine hl.mono ?_; rintro e w2 ⟨rfl, U2⟩)
          go_roundg (j + 1 - (i2 + 1))
          case measure => omega
          case rel => exact ⟨i2 + 1, by go_num, by omega, by omega, Nat.le_refl _, U2, (show Hid _ from (scanUp_go (fun x => !lt dk[a]! x) dk j i2 hle (by simp [hlv])).symm.trans hsc.out)⟩
        | true =>
          have hl := E.lessAt U a i2 (a : Int) (i2 : Int) (by omega) (by omega) rfl rfl true hlv
          have hi2 : Hid (i2 = scanUp (fun x => !lt dk[a]! x) dk j i) := (scanUp_end (fun x => !lt dk[a]! x) dk j i2 (Or.inr (by simp [hlv]))).symm.trans hsc.out
          go_wp2_with (go_at_fn g; refine hl.mono ?_; rintro e w2 ⟨rfl, U2⟩)
          go_loopg [10] j (fun k3 vj wq => ∃ (j2 : Nat), vj = .int .i64 j2 ∧ j2 ≤ j ∧ i2 ≤ j2 + 1 ∧ j2 ≤ k3 ∧ Sx enc blk off n (.func (.func g) #[] lb) (.func (.func sf) #[] sb) w.heap.size w dk wq ∧ Hid (scanDown (fun x => lt dk[a]! x) dk i2 j2 = scanDown (fun x => lt dk[a]! x) dk i2 j))
          case atStart => exact ⟨j, rfl, Nat.le_refl _, hij2, Nat.le_refl _, U2, rfl⟩
          case round =>
            obtain ⟨j2, rfl, hjj, hij3, hk3, D, hsd⟩ := hrel
            have d0 := D.c0
            have d1 := D.c1
            by_cases hle2 : i2 ≤ j2
            · have hlez2 : (i2 : Int) ≤ (j2 : Int) := by omega
              cases hlv2 : lt dk[a]! dk[j2]! with
              | true =>
                have hl2 := E.lessAt D a j2 (a : Int) (j2 : Int) (by omega) (by omega) rfl rfl true hlv2
                go_wp2_with (go_at_fn g; refine hl2.mono ?_; rintro e w3 ⟨rfl, D3⟩)
                go_roundg (j2 - 1)
                case measure => omega
                case rel => exact ⟨j2 - 1, by go_num, by omega, by omega, Nat.le_refl _, D3, (show Hid _ from (scanDown_go (fun x => lt dk[a]! x) dk i2 j2 hle2 (by omega) hlv2).symm.trans hsd.out)⟩
              | false =>
                have hl2 := E.lessAt D a j2 (a : Int) (j2 : Int) (by omega) (by omega) rfl rfl false hlv2
                have hj2 : Hid (j2 = scanDown (fun x => lt dk[a]! x) dk i2 j) := (scanDown_end (fun x => lt dk[a]! x) dk i2 j2 (Or.inr hlv2)).symm.trans hsd.out
                have hlt3 := scans_lt lt a i j dk (by omega) hi2.out hj2.out hle2
                go_wp2_with (go_at_fn g; refine hl2.mono ?_; rintro e w3 ⟨rfl, D3⟩; have d30 := D3.c0; have d31 := D3.c1; obtain ⟨w4, hs4, S4⟩ := E.swapAt D3 i2 j2 (i2 : Int) (j2 : Int) (by omega) (by omega) rfl rfl)
                go_roundg (j2 - 1 + 1 - (i2 + 1))
                case measure => omega
                case rel => exact ⟨i2 + 1, j2 - 1, swp dk i2 j2, by go_num, by go_num, by omega, by omega, by omega, Nat.le_refl _, S4, (show Hid _ from by rw [← AE.out]; exact (partEq_go lt a i j dk hi2.out hj2.out (by omega)).symm)⟩
            · have hlez2 : ¬ (i2 : Int) ≤ (j2 : Int) := by omega
              have hj2 : Hid (j2 = scanDown (fun x => lt dk[a]! x) dk i2 j) := (scanDown_end (fun x => lt dk[a]! x) dk i2 j2 (Or.inl hle2)).symm.trans hsd.out
              go_wp2
              go_ret
              have e := partEq_break lt a i j dk hi2.out hj2.out (by omega)
              exact ⟨by unfold Sort.partitionEqual; rw [← AE.out, e]; rfl, by unfold Sort.partitionEqual; rw [← AE.out, e]; exact D.st⟩
      · have hlez : ¬ (i2 : Int) ≤ (j : Int) := by omega
        have hi2 : Hid (i2 = scanUp (fun x => !lt dk[a]! x) dk j i) := (scanUp_end (fun x => !lt dk[a]! x) dk j i2 (Or.inl hle)).symm.trans hsc.out
        go_wp2
        go_loopg [10] j (fun k3 vj wq => ∃ (j2 : Nat), vj = .int .i64 j2 ∧ j2 ≤ j ∧ i2 ≤ j2 + 1 ∧ j2 ≤ k3 ∧ Sx enc blk off n (.func (.func g) #[] lb) (.func (.func sf) #[] sb) w.heap.size w dk wq ∧ Hid (scanDown (fun x => lt dk[a]! x) dk i2 j2 = scanDown (fun x => lt dk[a]! x) dk i2 j))
        case atStart => exact ⟨j, rfl, Nat.le_refl _, hij2, Nat.le_refl _, U, rfl⟩
        case round =>
          obtain ⟨j2, rfl, hjj, hij3, hk3, D, hsd⟩ := hrel
          have d0 := D.c0
          have d1 := D.c1
          have hle2 : ¬ i2 ≤ j2 := by omega
          have hlez2 : ¬ (i2 : Int) ≤ (j2 : Int) := by omega
          have hj2 : Hid (j2 = scanDown (fun x => lt dk[a]! x) dk i2 j) := (scanDown_end (fun x => lt dk[a]! x) dk i2 j2 (Or.inl hle2)).symm.trans hsd.out
          go_wp2
          go_ret
          have e := partEq_break lt a i j dk hi2.out hj2.out (by omega)
          exact ⟨by unfold Sort.partitionEqual; rw [← AE.out, e]; rfl, by unfold Sort.partitionEqual; rw [← AE.out, e]; exact D.st⟩

set_option maxHeartbeats 12800000 in
set_option maxRecDepth 1000000 in
theorem so_part (L : LaysGg.n33 P ρ) (E : En P enc lt g lb sf sb blk off n d w) (a b pivot : Nat) (hap : a ≤ pivot) (hpb : pivot < b) (hb : b ≤ n) :
    Calls P (ρ.f 33) #[.agg #[.func (.func g) #[] lb, .func (.func sf) #[] sb], .int .i64 a, .int .i64 b, .int .i64 pivot] w fun e w' =>
      e = .returned (.tuple #[.int .i64 (Sort.partition lt d a b pivot).1, .bool (Sort.partition lt d a b pivot).2.1]) ∧ St enc w blk off (Sort.partition lt d a b pivot).2.2 w' := by
  have mixed := L.mixed; have t0 := L.t0; have a0 := L.a0; have z0 := L.z0; have v0 := L.v0; have t3 := L.t3; have a3 := L.a3; have z3 := L.z3; have v3 := L.v3; have t4 := L.t4; have a4 := L.a4; have z4 := L.z4; have v4 := L.v4; have t26 := L.t26; have a26 := L.a26; have z26 := L.z26; have v26 := L.v26; have t37 := L.t37; have a37 := L.a37; have z37 := L.z37; have v37 := L.v37; have t44 := L.t44; have a44 := L.a44; have z44 := L.z44; have v44 := L.v44
  have u44 := run_underlying L.t44
  have eg := E.eg
  have hsz := E.hsz
  have S0 := E.box (.func (.func g) #[] lb) (.func (.func sf) #[] sb) (ρ.t 44)
  obtain ⟨w1, hs0, S1⟩ := E.swapAt S0 a pivot (a : Int) (pivot : Int) (by omega) (by omega) rfl rfl
  clear S0
  obtain ⟨i, hi⟩ : ∃ i : Nat, i = a + 1 := ⟨_, rfl⟩
  obtain ⟨j, hj⟩ : ∃ j : Nat, j = b - 1 := ⟨_, rfl⟩
  obtain ⟨dk, hdk⟩ : ∃ dk : Array α, dk = swp d a pivot := ⟨_, rfl⟩
  have hai : a < i := by omega
  have hij : i ≤ j + 1 := by omega
  have hjb : j < b := by omega
  rw [← hdk] at S1
  have s0 := S1.c0
  have s1 := S1.c1
  have Hi : Hid (i = a + 1) := hi
  have Hj : Hid (j = b - 1) := hj
  have Hdk : Hid (dk = swp d a pivot) := hdk
  clear hi hj hdk
  go_enter L.f33, BodyGg.n33_ntmps ρ
  go_wp2
  rw [show ((a : Int) + 1) = (i : Int) by have := Hi.out; omega, show ((b : Int) - 1) = (j : Int) by have := Hj.out; omega]
  go_loopg [10] (j + 1 - i) (fun k2 vi wq => ∃ (i2 : Nat), vi = .int .i64 i2 ∧ i ≤ i2 ∧ i2 ≤ j + 1 ∧ j + 1 - i2 ≤ k2 ∧ Sx enc blk off n (.func (.func g) #[] lb) (.func (.func sf) #[] sb) w.heap.size w dk wq ∧ Hid (scanUp (fun x => lt x dk[a]!) dk j i2 = scanUp (fun x => lt x dk[a]!) dk j i))
  case atStart => exact ⟨i, rfl, Nat.le_refl _, hij, Nat.le_refl _, S1, rfl⟩
  case round =>
    obtain ⟨i2, rfl, hii, hij2, hk2, U, hsc⟩ := hrel
    have u0 := U.c0
    by_cases hle : i2 ≤ j
    · have hlez : (i2 : Int) ≤ (j : Int) := by omega
      cases hlv : lt dk[i2]! dk[a]! with
      | true =>
        have hl := E.lessAt U i2 a (i2 : Int) (a : Int) (by omega) (by omega) rfl rfl true hlv
        go_wp2_with (go_at_fn g; refine hl.mono ?_; rintro e w2 ⟨rfl, U2⟩)
        go_roundg (j + 1 - (i2 + 1))
        case measure => omega
        case rel => exact ⟨i2 + 1, by go_num, by omega, by omega, Nat.le_refl _, U2, (show Hid _ from (scanUp_go (fun x => lt x dk[a]!) dk j i2 hle hlv).symm.trans hsc.out)⟩
      | false =>
        have hl := E.lessAt U i2 a (i2 : Int) (a : Int) (by omega) (by omega) rfl rfl false hlv
        have hi2 : Hid (i2 = scanUp (fun x => lt x dk[a]!) dk j i) := (scanUp_end (fun x => lt x dk[a]!) dk j i2 (Or.inr hlv)).symm.trans hsc.out
        go_wp2_with (go_at_fn g; refine hl.mono ?_; rintro e w2 ⟨rfl, U2⟩)
        go_loopg [11] j (fun k3 vj wq => ∃ (j2 : Nat), vj = .int .i64 j2 ∧ j2 ≤ j ∧ i2 ≤ j2 + 1 ∧ j2 ≤ k3 ∧ Sx enc blk off n (.func (.func g) #[] lb) (.func (.func sf) #[] sb) w.heap.size w dk wq ∧ Hid (scanDown (fun x => !lt x dk[a]!) dk i2 j2 = scanDown (fun x => !lt x dk[a]!) dk i2 j))
        case atStart => exact ⟨j, rfl, Nat.le_refl _, hij2, Nat.le_refl _, U2, rfl⟩
        case round =>
          obtain ⟨j2, rfl, hjj, hij3, hk3, D, hsd⟩ := hrel
          have d0 := D.c0
          have d1 := D.c1
          by_cases hle2 : i2 ≤ j2
          · have hlez2 : (i2 : Int) ≤ (j2 : Int) := by omega
            cases hlv2 : lt dk[j2]! dk[a]! with
            | false =>
              have hl2 := E.lessAt D j2 a (j2 : Int) (a : Int) (by omega) (by omega) rfl rfl false hlv2
              go_wp2_with (go_at_fn g; refine hl2.mono ?_; rintro e w3 ⟨rfl, D3⟩)
              go_roundg (j2 - 1)
              case measure => omega
              case rel => exact ⟨j2 - 1, by go_num, by omega, by omega, Nat.le_refl _, D3, (show Hid _ from (scanDown_go (fun x => !lt x dk[a]!) dk i2 j2 hle2 (by omega) (by simp [hlv2])).symm.trans hsd.out)⟩
            | true =>
              have hl2 := E.lessAt D j2 a (j2 : Int) (a : Int) (by omega) (by omega) rfl rfl true hlv2
              have hj2 : Hid (j2 = scanDown (fun x => !lt x dk[a]!) dk i2 j) := (scanDown_end (fun x => !lt x dk[a]!) dk i2 j2 (Or.inr (by simp [hlv2]))).symm.trans hsd.out
              have hlt3 := part_scans_lt lt a i j dk (by omega) hi2.out hj2.out hle2
              go_wp2_with (go_at_fn g; refine hl2.mono ?_; rintro e w3 ⟨rfl, D3⟩; have d30 := D3.c0; have d31 := D3.c1; obtain ⟨w4, hs4, S4⟩ := E.swapAt D3 i2 j2 (i2 : Int) (j2 : Int) (by omega) (by omega) rfl rfl)
              try rw [decide_eq_false (show ¬ (j2 : Int) < (i2 : Int) by omega)]
              try rw [decide_eq_false (show ¬ j2 < i2 by omega)]
              obtain ⟨I0, hI0⟩ : ∃ I0 : Nat, I0 = i2 + 1 := ⟨_, rfl⟩
              obtain ⟨J0, hJ0⟩ : ∃ J0 : Nat, J0 = j2 - 1 := ⟨_, rfl⟩
              obtain ⟨D0, hD0⟩ : ∃ D0 : Array α, D0 = swp dk i2 j2 := ⟨_, rfl⟩
              have PF : Hid (Sort.partition lt d a b pivot = ((partLoop lt a I0 J0 D0).1, false, swp (partLoop lt a I0 J0 D0).2 (partLoop lt a I0 J0 D0).1 a)) := by
                rw [hI0, hJ0, hD0]; exact part_first_go lt d a b pivot Hi.out Hj.out Hdk.out hi2.out hj2.out (by omega)
              go_loopg [10, 11] (b - a) (fun k vi vj wr => ∃ (i j : Nat) (dk : Array α), vi = .int .i64 i ∧ vj = .int .i64 j ∧ a < i ∧ i ≤ j + 1 ∧ j < b ∧ j + 1 - i ≤ k ∧ Sx enc blk off n (.func (.func g) #[] lb) (.func (.func sf) #[] sb) w.heap.size w dk wr ∧ Hid (partLoop lt a i j dk = partLoop lt a I0 J0 D0))
              case atStart => exact ⟨i2 + 1, j2 - 1, swp dk i2 j2, by go_num, by go_num, by omega, by omega, by omega, by omega, S4, by rw [hI0, hJ0, hD0]; exact rfl⟩
              case round =>
                clear hI0 hJ0 hD0 hj2 hi2 hlt3 hl2 hs4 S4 D3 d30 d31 D d0 d1 hsd U hsc u0 Hi Hj Hdk S1 s0 s1
                clear hlv2 hlez2 hle2 hij3 hjj hk3
                obtain ⟨i, j, dk, rfl, rfl, hai, hij, hjb, hk, S, AE⟩ := hrel
                go_wp2
                go_loopg [10] (j + 1 - i) (fun k2 vi wq => ∃ (i2 : Nat), vi = .int .i64 i2 ∧ i ≤ i2 ∧ i2 ≤ j + 1 ∧ j + 1 - i2 ≤ k2 ∧ Sx enc blk off n (.func (.func g) #[] lb) (.func (.func sf) #[] sb) w.heap.size w dk wq ∧ Hid (scanUp (fun x => lt x dk[a]!) dk j i2 = scanUp (fun x => lt x dk[a]!) dk j i))
                case atStart => exact ⟨i, rfl, Nat.le_refl _, hij, Nat.le_refl _, S, rfl⟩
                case round =>
                  obtain ⟨i2, rfl, hii, hij2, hk2, U, hsc⟩ := hrel
                  have u0 := U.c0
                  by_cases hle : i2 ≤ j
                  · have hlez : (i2 : Int) ≤ (j : Int) := by omega
                    cases hlv : lt dk[i2]! dk[a]! with
                    | true =>
                      have hl := E.lessAt U i2 a (i2 : Int) (a : Int) (by omega) (by omega) rfl rfl true hlv
                      go_wp2_with (go_at_fn g; refine hl.mono ?_; rintro e w2 ⟨rfl, U2⟩)
                      go_roundg (j + 1 - (i2 + 1))
                      case measure => omega
                      case rel => exact ⟨i2 + 1, by go_num, by omega, by omega, Nat.le_refl _, U2, (show Hid _ from (scanUp_go (fun x => lt x dk[a]!) dk j i2 hle hlv).symm.trans hsc.out)⟩
                    | false =>
                      have hl := E.lessAt U i2 a (i2 : Int) (a : Int) (by omega) (by omega) rfl rfl false hlv
                      have hi2 : Hid (i2 = scanUp (fun x => lt x dk[a]!) dk j i) := (scanUp_end (fun x => lt x dk[a]!) dk j i2 (Or.inr hlv)).symm.trans hsc.out
                      go_wp2_with (go_at_fn g; refine hl.mono ?_; rintro e w2 ⟨rfl, U2⟩)
                      go_loopg [11] j (fun k3 vj wq => ∃ (j2 : Nat), vj = .int .i64 j2 ∧ j2 ≤ j ∧ i2 ≤ j2 + 1 ∧ j2 ≤ k3 ∧ Sx enc blk off n (.func (.func g) #[] lb) (.func (.func sf) #[] sb) w.heap.size w dk wq ∧ Hid (scanDown (fun x => !lt x dk[a]!) dk i2 j2 = scanDown (fun x => !lt x dk[a]!) dk i2 j))
                      case atStart => exact ⟨j, rfl, Nat.le_refl _, hij2, Nat.le_refl _, U2, rfl⟩
                      case round =>
                        obtain ⟨j2, rfl, hjj, hij3, hk3, D, hsd⟩ := hrel
                        have d0 := D.c0
                        have d1 := D.c1
                        by_cases hle2 : i2 ≤ j2
                        · have hlez2 : (i2 : Int) ≤ (j2 : Int) := by omega
                          cases hlv2 : lt dk[j2]! dk[a]! with
                          | false =>
                            have hl2 := E.lessAt D j2 a (j2 : Int) (a : Int) (by omega) (by omega) rfl rfl false hlv2
                            go_wp2_with (go_at_fn g; refine hl2.mono ?_; rintro e w3 ⟨rfl, D3⟩)
                            go_roundg (j2 - 1)
                            case measure => omega
                            case rel => exact ⟨j2 - 1, by go_num, by omega, by omega, Nat.le_refl _, D3, (show Hid _ from (scanDown_go (fun x => !lt x dk[a]!) dk i2 j2 hle2 (by omega) (by simp [hlv2])).symm.trans hsd.out)⟩
                          | true =>
                            have hl2 := E.lessAt D j2 a (j2 : Int) (a : Int) (by omega) (by omega) rfl rfl true hlv2
                            have hj2 : Hid (j2 = scanDown (fun x => !lt x dk[a]!) dk i2 j) := (scanDown_end (fun x => !lt x dk[a]!) dk i2 j2 (Or.inr (by simp [hlv2]))).symm.trans hsd.out
                            have hlt3 := part_scans_lt lt a i j dk (by omega) hi2.out hj2.out hle2
                            go_wp2_with (go_at_fn g; refine hl2.mono ?_; rintro e w3 ⟨rfl, D3⟩; have d30 := D3.c0; have d31 := D3.c1; obtain ⟨w4, hs4, S4⟩ := E.swapAt D3 i2 j2 (i2 : Int) (j2 : Int) (by omega) (by omega) rfl rfl)
                            go_roundg (j2 - 1 + 1 - (i2 + 1))
                            case measure => omega
                            case rel => exact ⟨i2 + 1, j2 - 1, swp dk i2 j2, by go_num, by go_num, by omega, by omega, by omega, Nat.le_refl _, S4, (show Hid _ from by rw [← AE.out]; exact (part_go lt a i j dk hi2.out hj2.out (by omega)).symm)⟩
                        · have hlez2 : ¬ (i2 : Int) ≤ (j2 : Int) := by omega
                          have hj2 : Hid (j2 = scanDown (fun x => !lt x dk[a]!) dk i2 j) := (scanDown_end (fun x => !lt x dk[a]!) dk i2 j2 (Or.inl hle2)).symm.trans hsd.out
                          obtain ⟨w5, hs5, S5⟩ := E.swapAt D j2 a (j2 : Int) (a : Int) (by omega) (by omega) rfl rfl
                          go_wp2
                          go_ret2
                          have e := part_break lt a i j dk hi2.out hj2.out (by omega)
                          rw [PF.out, ← AE.out, e]
                          exact ⟨rfl, S5.st⟩
                  · have hlez : ¬ (i2 : Int) ≤ (j : Int) := by omega
                    have hi2 : Hid (i2 = scanUp (fun x => lt x dk[a]!) dk j i) := (scanUp_end (fun x => lt x dk[a]!) dk j i2 (Or.inl hle)).symm.trans hsc.out
                    go_wp2
                    go_loopg [11] j (fun k3 vj wq => ∃ (j2 : Nat), vj = .int .i64 j2 ∧ j2 ≤ j ∧ i2 ≤ j2 + 1 ∧ j2 ≤ k3 ∧ Sx enc blk off n (.func (.func g) #[] lb) (.func (.func sf) #[] sb) w.heap.size w dk wq ∧ Hid (scanDown (fun x => !lt x dk[a]!) dk i2 j2 = scanDown (fun x => !lt x dk[a]!) dk i2 j))
                    case atStart => exact ⟨j, rfl, Nat.le_refl _, hij2, Nat.le_refl _, U, rfl⟩
                    case round =>
                      obtain ⟨j2, rfl, hjj, hij3, hk3, D, hsd⟩ := hrel
                      have d0 := D.c0
                      have d1 := D.c1
                      have hle2 : ¬ i2 ≤ j2 := by omega
                      have hlez2 : ¬ (i2 : Int) ≤ (j2 : Int) := by omega
                      have hj2 : Hid (j2 = scanDown (fun x => !lt x dk[a]!) dk i2 j) := (scanDown_end (fun x => !lt x dk[a]!) dk i2 j2 (Or.inl hle2)).symm.trans hsd.out
                      obtain ⟨w5, hs5, S5⟩ := E.swapAt D j2 a (j2 : Int) (a : Int) (by omega) (by omega) rfl rfl
                      go_wp2
                      go_ret2
                      have e := part_break lt a i j dk hi2.out hj2.out (by omega)
                      rw [PF.out, ← AE.out, e]
                      exact ⟨rfl, S5.st⟩
          · have hlez2 : ¬ (i2 : Int) ≤ (j2 : Int) := by omega
            have hj2 : Hid (j2 = scanDown (fun x => !lt x dk[a]!) dk i2 j) := (scanDown_end (fun x => !lt x dk[a]!) dk i2 j2 (Or.inl hle2)).symm.trans hsd.out
            obtain ⟨w5, hs5, S5⟩ := E.swapAt D j2 a (j2 : Int) (a : Int) (by omega) (by omega) rfl rfl
            go_wp2
            go_ret2
            have e := part_first_break lt d a b pivot Hi.out Hj.out Hdk.out hi2.out hj2.out (by omega)
            rw [e]
            exact ⟨rfl, S5.st⟩
    · have hlez : ¬ (i2 : Int) ≤ (j : Int) := by omega
      have hi2 : Hid (i2 = scanUp (fun x => lt x dk[a]!) dk j i) := (scanUp_end (fun x => lt x dk[a]!) dk j i2 (Or.inl hle)).symm.trans hsc.out
      go_wp2
      go_loopg [11] j (fun k3 vj wq => ∃ (j2 : Nat), vj = .int .i64 j2 ∧ j2 ≤ j ∧ i2 ≤ j2 + 1 ∧ j2 ≤ k3 ∧ Sx enc blk off n (.func (.func g) #[] lb) (.func (.func sf) #[] sb) w.heap.size w dk wq ∧ Hid (scanDown (fun x => !lt x dk[a]!) dk i2 j2 = scanDown (fun x => !lt x dk[a]!) dk i2 j))
      case atStart => exact ⟨j, rfl, Nat.le_refl _, hij2, Nat.le_refl _, U, rfl⟩
      case round =>
        obtain ⟨j2, rfl, hjj, hij3, hk3, D, hsd⟩ := hrel
        have d0 := D.c0
        have d1 := D.c1
        have hle2 : ¬ i2 ≤ j2 := by omega
        have hlez2 : ¬ (i2 : Int) ≤ (j2 : Int) := by omega
        have hj2 : Hid (j2 = scanDown (fun x => !lt x dk[a]!) dk i2 j) := (scanDown_end (fun x => !lt x dk[a]!) dk i2 j2 (Or.inl hle2)).symm.trans hsd.out
        obtain ⟨w5, hs5, S5⟩ := E.swapAt D j2 a (j2 : Int) (a : Int) (by omega) (by omega) rfl rfl
        go_wp2
        go_ret2
        have e := part_first_break lt d a b pivot Hi.out Hj.out Hdk.out hi2.out hj2.out (by omega)
        rw [e]
        exact ⟨rfl, S5.st⟩
end Go.Proofs.YtdhlnagkhkcoiaaDoor
