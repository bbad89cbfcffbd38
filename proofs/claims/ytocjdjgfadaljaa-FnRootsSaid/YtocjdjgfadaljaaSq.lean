/- SquaresMod and IsSquareMod of both packages. -/
import Derived.Test.YtocjdjgfadaljaaPow
import Derived.Test.YtocjdjgfadaljaaSl
namespace Go.Proofs.Ytocjdjgfadaljaa
open Go.RowKit
set_option linter.unusedVariables false

theorem Try.infoBool : (Try.prog.info? 4).map (fun i => (i.zero, i.size, i.bytes)) = some (some (.bool false), 1, 1) := by kernel_rfl

/-- Some residue below k has this square. -/
def seen (m : Int) (k : Nat) (a : Nat) : Bool := (List.range k).any (fun x => ((x : Int) * x % m == (a : Int)))
theorem seen_succ (m : Int) (k a : Nat) : seen m (k + 1) a = (seen m k a || ((k : Int) * k % m == (a : Int))) := by
  simp [seen, List.range_succ, List.any_append]

/-- The squares from 1 to k - 1. -/
def sqs (m : Int) (k : Nat) : List Int := ((List.range k).filter (fun a => decide (1 ≤ a) && seen m m.toNat a)).map (fun a : Nat => (a : Int))

theorem sqs_succ_yes (m : Int) (k : Nat) (hk : 1 ≤ k) (h : seen m m.toNat k = true) : sqs m (k + 1) = sqs m k ++ [(k : Int)] := by
  simp [sqs, List.range_succ, List.filter_append, h, hk]
theorem sqs_succ_no (m : Int) (k : Nat) (h : seen m m.toNat k = false) : sqs m (k + 1) = sqs m k := by
  simp [sqs, List.range_succ, List.filter_append, h]
theorem sqs_length (m : Int) (k : Nat) : (sqs m k).length ≤ k := by
  simp only [sqs, List.length_map]
  exact Nat.le_trans (List.length_filter_le _ _) (by simp)

set_option maxHeartbeats 800000 in
theorem isquares (m : Int) (w : World) (h1 : 1 ≤ m) (h2 : m ≤ 1000) :
    Calls Try.prog 14 #[.int .i64 m] w fun e w' => ∃ v, e = .returned v ∧ Ints w' w.heap.size v (sqs m m.toNat) ∧ Below w.heap.size w w' := by
  obtain ⟨n, rfl⟩ : ∃ n : Nat, m = n := ⟨m.toNat, by omega⟩
  have z1 : ¬ (n : Int) = 0 := by omega
  have hmk := fun W : World => run_make_row' (P := Try.prog) 54 4 (.bool false) 1 Try.underlying54 Try.infoBool rfl .i64 .i64 n (by omega) (by omega) W
  go_enter Try.func14, Try.ntmps14
  go_wp2_with (go_at_call 39; refine (imod_yes _ _ h1 h2).mono ?_; rintro e w' ⟨rfl, rfl⟩)
  have hrow0 := World.rowIs_made w (.bool false) n 4
  go_loopw [13] (fun i wr => ∃ k : Nat, k ≤ n ∧ i = .int .i64 k ∧ Hid (wr.rowIs w.heap.size 4 n (fun a => .bool (seen n k a))) ∧ Hid (Below w.heap.size w wr ∧ wr.heap.size = w.heap.size + 1)) (fun i _ => n - (intOf i).toNat)
  case atStart => exact ⟨0, Nat.zero_le _, rfl, hrow0, (Below.refl _ _).alloc (Nat.le_refl _) _, by simp⟩
  case round =>
    obtain ⟨k, hk, rfl, hr, hb⟩ := hrel
    by_cases hlt : k < n
    · have ⟨u0, u1⟩ := mul_small k k n (by omega) (by omega) (by omega) (by omega) h2
      obtain ⟨q, hq⟩ : ∃ q : Nat, (k : Int) * k % n = q := ⟨((k : Int) * k % n).toNat, by have := Int.emod_nonneg ((k : Int) * k) z1; omega⟩
      have q1 : (q : Int) < n := by rw [← hq]; exact Int.emod_lt_of_pos _ (by omega)
      have q0 : (0 : Int) ≤ q := by omega
      have hc := hr.out.cell (i := q) (by omega)
      have hf := hr.out.frozen q
      have S1 : Hid ((wr.setCell ⟨w.heap.size, q, none⟩ (.bool true)).rowIs w.heap.size 4 n (fun a => .bool (seen n (k + 1) a))) :=
        (hr.out.set q (.bool true)).congr fun a _ => by
          show (if a = q then _ else _) = _
          rw [seen_succ, hq]
          by_cases e : a = q
          · subst e; simp
          · rw [if_neg e]; simp; omega
      have S2 : Hid (Below w.heap.size w (wr.setCell ⟨w.heap.size, q, none⟩ (.bool true)) ∧ (wr.setCell ⟨w.heap.size, q, none⟩ (.bool true)).heap.size = w.heap.size + 1) :=
        ⟨hb.out.1.setCell (Nat.le_refl _) _, by simp [World.setCell, hb.out.2]⟩
      go_wp2
      go_roundw
      case rel => exact ⟨k + 1, by omega, by go_num, S1, S2⟩
      case measure => simp [intOf]; omega
    · obtain rfl : k = n := by omega
      go_wp2
      obtain ⟨B, hB⟩ : ∃ B, wr.heap.size = B := ⟨_, rfl⟩
      have hB0 : B = w.heap.size + 1 := by rw [← hB]; exact hb.out.2
      have hbw := hb.out.1
      have HB := Lib.hid hB
      have HI : Ints wr B (.slice none 0 0) [] := World.ownsRow_nil _ _ _ _
      obtain ⟨wo, rfl⟩ : ∃ wo : World, wo = wr := ⟨_, rfl⟩
      have hbo : Below w.heap.size w wo := hbw
      have hro : Hid (wo.rowIs w.heap.size 4 k (fun a => .bool (seen k k a))) := hr
      have hso : B ≤ wo.heap.size := by omega
      have hB1 : w.heap.size < B := by omega
      clear hB hB0 hr hb hbw
      go_loopw [5, 6] (fun v i wr => ∃ a : Nat, 1 ≤ a ∧ a ≤ k ∧ i = .int .i64 a ∧ Hid (Ints wr B v (sqs k a)) ∧ Hid (Below B wo wr)) (fun _ i _ => k - (intOf i).toNat)
      case atStart => exact ⟨1, by omega, by omega, rfl, HI, Below.refl _ _⟩
      case round =>
        obtain ⟨a, a1, ak, rfl, hI, hBl⟩ := hrel
        have hro' := hro.out.of_block (hBl.out.block _ hB1)
        by_cases hlt : a < k
        · have hc := hro'.cell (i := a) (by omega)
          have e0 : (0 : Int) ≤ (a : Int) := by omega
          have e1 : (a : Int) < (k : Int) := by omega
          have hlen := sqs_length (k : Int) a
          have hs : B ≤ wr.heap.size := by have := hBl.out.size; omega
          by_cases ht : seen k k a = true
          · have S1 := Lib.hid (sqs_succ_yes (k : Int) a a1 (by rw [Int.toNat_natCast]; exact ht))
            rw [ht] at hc
            go_wp2_with (at_builtin; go_must (refine wpList_push wr (by rfl) _ _ (by rfl) B _ _ (by rfl) hI.out a _ (by rfl) (by omega) hs ?_); intro v' w1 hI' hb'; have HI' := Lib.hid hI'; have HB' := Lib.hid hb'; clear hI' hb')
            go_roundw
            case rel => exact ⟨a + 1, by omega, by omega, by go_num, by rw [S1.out]; exact HI', hBl.out.trans HB'.out⟩
            case measure => simp [intOf]; omega
          · have ht' : seen k k a = false := by simpa using ht
            have S1 := Lib.hid (sqs_succ_no (k : Int) a (by rw [Int.toNat_natCast]; exact ht'))
            rw [ht'] at hc
            clear ht
            go_wp2
            go_roundw
            case rel => exact ⟨a + 1, by omega, by omega, by go_num, by rw [S1.out]; exact hI, hBl⟩
            case measure => simp [intOf]; omega
        · obtain rfl : a = k := by omega
          go_wp2
          go_ret
          exact ⟨_, rfl, by rw [Int.toNat_natCast]; exact hI.out.mono (by omega), hbo.trans (hBl.out.mono (by omega))⟩

/-- What SquaresMod answers. -/
def sqAll (m : Int) : List Int := if 1 ≤ m ∧ m ≤ 1000 then sqs m m.toNat else []

theorem isquares_no (m : Int) (w : World) (h : m < 1 ∨ 1000 < m) :
    Calls Try.prog 14 #[.int .i64 m] w fun e w' => ∃ v, e = .returned v ∧ Ints w' w.heap.size v [] ∧ Below w.heap.size w w' := by
  have H := Lib.hid h
  clear h
  go_enter Try.func14, Try.ntmps14
  go_wp2_with (go_at_call 39; refine (imod_no _ _ H.out).mono ?_; rintro e w' ⟨rfl, rfl⟩)
  go_ret
  exact ⟨_, rfl, World.ownsRow_nil _ _ _ _, Below.refl _ _⟩

theorem isqAll (m : Int) (w : World) :
    Calls Try.prog 14 #[.int .i64 m] w fun e w' => ∃ v, e = .returned v ∧ Ints w' w.heap.size v (sqAll m) ∧ Below w.heap.size w w' := by
  by_cases h : 1 ≤ m ∧ m ≤ 1000
  · rw [show sqAll m = sqs m m.toNat from if_pos h]; exact isquares m w h.1 h.2
  · rw [show sqAll m = [] from if_neg h]; exact isquares_no m w (by omega)

theorem sqAll_length (m : Int) : (sqAll m).length ≤ 1000 := by
  unfold sqAll
  split
  · have := sqs_length m m.toNat; omega
  · simp

end Go.Proofs.Ytocjdjgfadaljaa
