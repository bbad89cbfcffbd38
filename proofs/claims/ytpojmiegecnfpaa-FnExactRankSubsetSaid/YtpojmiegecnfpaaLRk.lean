/- RankSubset: the law. -/
import Derived.Test.YtpojmiegecnfpaaRk
namespace Go.Proofs.Ytpojmiegecnfpaa
open Go.RowKit
set_option linter.unusedVariables false

set_option maxHeartbeats 1000000 in
theorem law_FnExactRankSubset (n : Int) (a : Option Addr) (len cap : Nat) (zs : List Int) (w : World) (_ : (Lit.int .i64 n).wf = true) (h : IsRow .i64 w a len cap zs) :
    Calls Try.prog 6 #[.int .i64 n, .slice a len cap] w fun r w' => r = .returned (.bool true) ∧ Below w.heap.size w w' := by
  obtain ⟨hat, hlen⟩ := h.at
  by_cases hbig : 1048576 < len
  · clear h hat hlen
    go_enter Try.func6, Try.ntmps6
    go_wp2
    go_ret
    exact ⟨rfl, Below.refl _ _⟩
  · obtain ⟨xs, hxs⟩ : ∃ xs, zs.take len = xs := ⟨_, rfl⟩
    rw [hxs] at hat hlen
    have hl : xs.length ≤ 1048576 := by omega
    have A := Lib.hid hat
    obtain ⟨b, hb⟩ : ∃ b, rkA n xs = b := ⟨_, rfl⟩
    obtain ⟨c, hc⟩ : ∃ c, rkE n xs = c := ⟨_, rfl⟩
    have hS := fun W v h => sRank n xs v W h
    have hI := fun W v h => iRank n xs v W h
    simp only [hb, hc] at hS hI
    have HS := Lib.hid hS
    have HI := Lib.hid hI
    have tb : (b != b) = false := by simp
    have tc : (c != c) = false := by simp
    clear h hat hlen hxs hS hI hb hc
    go_enter Try.func6, Try.ntmps6
    go_wp2_with fail
    refine (copy_any _ _ xs A.out hl).mono ?_
    rintro r w1 ⟨v1, rfl, i1, b1⟩
    have I1 := Lib.hid i1
    have B1 := Lib.hid b1
    clear i1 b1
    go_wp2_with fail
    refine (HS.out _ v1 I1.out.at).mono ?_
    rintro r w2 ⟨rfl, k2, rfl⟩
    go_wp2_with fail
    refine (copy_any _ _ xs ((A.out.below B1.out (Nat.le_refl _)).drewN k2) hl).mono ?_
    rintro r w3 ⟨v3, rfl, i3, b3⟩
    have I3 := Lib.hid i3
    have B3 := Lib.hid b3
    clear i3 b3
    go_wp2_with fail
    refine (HI.out _ v3 I3.out.at).mono ?_
    rintro r w4 ⟨rfl, rfl⟩
    go_wp2_with fail
    refine (copy_any _ _ xs (((A.out.below B1.out (Nat.le_refl _)).drewN k2).below B3.out (Nat.le_refl _)) hl).mono ?_
    rintro r w5 ⟨v5, rfl, i5, b5⟩
    have I5 := Lib.hid i5
    have B5 := Lib.hid b5
    clear i5 b5
    go_wp2_with fail
    refine (eq_same _ _ _ xs (I3.out.below B5.out (Nat.le_refl _)).at I5.out.at).mono ?_
    rintro r w6 ⟨rfl, k6, rfl⟩
    go_wp2
    go_ret
    refine ⟨rfl, below_drewN ?_ _⟩
    have s1 := B1.out.size
    have s3 := B3.out.size
    have s3' : w1.heap.size ≤ w3.heap.size := s3
    exact (B1.out.trans (below_drewN (Below.refl _ _) k2)).trans ((B3.out.mono (by simpa using s1)).trans (B5.out.mono (by omega)))
end Go.Proofs.Ytpojmiegecnfpaa
