/- ReadPartial, ReadSquare: the program's readRows. -/
import Derived.Test.YtaipgfahkpnooaaRsr
import Derived.Test.YtaipgfahkpnooaaRpd
import Derived.Test.YtaipgfahkpnooaaVpa
import Derived.WalkSmall
namespace Go.Proofs.Ytaipgfahkpnooaa
open Go.RowKit Go.Lib
set_option linter.unusedVariables false
set_option linter.unusedSimpArgs false

set_option maxRecDepth 100000 in
set_option maxHeartbeats 2000000 in
theorem iVs (xss : List (List Int)) (W : World) (v : Value) (hv : RowsAt W v xss) :
    Calls Try.prog 47 #[v] W fun e w' => e = .returned (.bool (sqB xss)) ∧ Below W.heap.size W w' := by
  have H := Lib.hid (ilsq W v xss hv)
  obtain ⟨z, hz⟩ : ∃ z, sqB xss = z := ⟨_, rfl⟩
  rw [hz] at H ⊢
  clear hv hz
  go_enter Try.func47, Try.ntmps47
  go_wp2_with fail
  refine H.out.mono ?_
  rintro e w1 ⟨n, f, rfl, -, b1⟩
  have st := stores_newSq w1 (sqC n f)
  have B1 : Hid (Below W.heap.size W (w1.alloc (.cells (iar 101 (sqC n f)) 50))) := b1.alloc b1.size _
  clear b1
  go_wp2
  go_ret
  exact ⟨rfl, B1.out⟩

/-- The last row. -/
theorem RowsL.last {w : World} {B L g n cap : Nat} {A : List (List Int)} {a : List Int} (h : RowsL w B L (.slice (some ⟨g, 0, none⟩) n cap) (A ++ [a])) :
    n = A.length + 1 ∧ ∃ ua uc, w.cell? ⟨g, A.length, none⟩ = some (.slice ua a.length uc) := by
  obtain ⟨us, e, ho, h1, h2, hr, hd⟩ := h
  have ln : (A ++ [a]).length = A.length + 1 := by rw [List.length_append]; rfl
  rw [ln] at e ho hr
  have hn : n = A.length + 1 := by
    rcases ho.2 with ⟨e3, _⟩ | ⟨_, _, _, e3, _⟩
    · cases e3
    · simp only [Value.slice.injEq] at e3; exact e3.2.1
  subst hn
  have gx : (A ++ [a]).getD A.length [] = a := by simp [List.getD]
  have hu := hr A.length (by omega)
  rw [gx] at hu
  obtain ⟨ua, uc, e2⟩ := hu.1.len_eq
  refine ⟨rfl, ua, uc, ?_⟩
  rw [ho.cellAt A.length (by omega), ← e2]
  simp [List.getD, List.getElem?_eq_getElem (show A.length < us.length by omega)]
theorem rowsp_nil : rowsp [] = [] ++ [[]] := rfl
theorem rowsp_snoc (l : List UInt8) : ∃ A a, rowsp l = A ++ [a] ∧ A.length ≤ l.length ∧ a.length ≤ l.length ∧ (∀ b, b ≠ 47 → rowsp (l ++ [b]) = A ++ [a ++ [vlp b]]) ∧ rowsp (l ++ [47]) = A ++ [a] ++ [[]] := by
  obtain ⟨A, a, e1, e2, e3⟩ := cut_snoc 47 l
  have h1 := cut_length 47 l
  have h2 := List.count_le_length (a := (47 : UInt8)) (l := l)
  have h3 := cut_mem_length 47 l a (by rw [e1]; simp)
  rw [e1, List.length_append] at h1
  simp only [List.length_singleton] at h1
  refine ⟨A.map rowp, rowp a, ?_, by rw [List.length_map]; omega, by unfold rowp; rw [List.length_map]; exact h3, fun b hb => ?_, ?_⟩
  · unfold rowsp; rw [e1]; simp
  · unfold rowsp; rw [e2 b hb]; simp [rowp]
  · unfold rowsp; rw [e3]; simp [rowp]
theorem KeepItP.of_below {w w' : World} {B k : Nat} {s : ByteArray} {p : Nat} (h : Below B w w') (hk : w.heap[k]? = some (.stringIter s p)) (hB : w.heap.size ≤ B) : w'.heap[k]? = some (.stringIter s p) :=
  (h.block k (by have := (Array.getElem?_eq_some_iff.1 hk).1; omega)).trans hk

theorem iVpt (xss : List (List Int)) (W : World) (v : Value) (hv : RowsAt W v xss) :
    Calls Try.prog 12 #[v] W fun e w' => e = .returned (.bool (ptB xss)) ∧ Below W.heap.size W w' := by
  have H := Lib.hid (ipart W v xss hv)
  obtain ⟨z, hz⟩ : ∃ z, ptB xss = z := ⟨_, rfl⟩
  rw [hz] at H ⊢
  clear hv hz
  go_enter Try.func12, Try.ntmps12
  go_wp2_with fail
  refine H.out.mono ?_
  rintro e w1 ⟨p, rfl, -, b1⟩
  have B1 := Lib.hid b1
  clear b1
  go_wp2
  go_ret
  exact ⟨rfl, B1.out⟩
theorem readpt_yes {s : ByteArray} (h : okpB s.data.toList = true) (z : ptB (rowsp s.data.toList) = true) : ReadPartial_1 s = true ∧ ReadPartial_0 s = rowsp s.data.toList := readp_yes (of_okpB h) z

set_option maxRecDepth 100000 in
set_option maxHeartbeats 8000000 in
theorem ird (s : ByteArray) (hs : s.size ≤ 1048576) (W : World) :
    Calls Try.prog 45 #[.string s] W fun e w' => ∃ r, e = .returned (.tuple #[r, .bool (okpB s.data.toList)]) ∧ (okpB s.data.toList = true → RowsL w' W.heap.size w'.heap.size r (rowsp s.data.toList)) ∧ Below W.heap.size W w' := by
  have NB : Hid (∀ b : UInt8, b ∈ s.data.toList → b ≠ 47 → ¬ dgp b → okpB s.data.toList = false) := fun b h1 h2 h3 => okp_bad h1 h2 h3
  have YS : Hid (okp s.data.toList → okpB s.data.toList = true) := okpB_true
  have SN := Lib.hid (fun j => rowsp_snoc (s.data.toList.take j))
  have TS : Hid (∀ j (h : j < s.size), s.data.toList.take (j + 1) = s.data.toList.take j ++ [s[j]]) := fun j h => by
    rw [List.take_succ_eq_append_getElem (show j < s.data.toList.length from h)]; rfl
  have TM : Hid (s.data.toList.take s.size = s.data.toList) := List.take_length
  have TL : Hid (∀ j, j ≤ s.size → (s.data.toList.take j).length = j) := fun j h => by rw [List.length_take]; exact Nat.min_eq_left h
  have MEM : Hid (∀ j (h : j < s.size), s[j] ∈ s.data.toList) := fun j h => List.getElem_mem (l := s.data.toList) (n := j) h
  obtain ⟨B, hB⟩ : ∃ B, W.heap.size = B := ⟨_, rfl⟩
  have HR0 : RowsL (W.alloc (.cells #[.slice none 0 0] 28)) B (B + 1) (.slice (some ⟨B, 0, none⟩) 1 1) (rowsp (s.data.toList.take 0)) := by
    rw [← hB]
    have := World.ownsRow_lit (base := W.heap.size) (e := 28) (size := 1) W #[.slice none 0 0] 1 (Nat.le_refl _) (by decide) rfl
    refine ⟨[.slice none 0 0], rfl, this, fun k ek => ?_, by simp, fun j hj => ?_, fun i j hij hj => ?_⟩
    · simp only [Value.ownBlock, Option.some.injEq] at ek; omega
    · have hj1 : j < 1 := hj
      obtain rfl : j = 0 := by omega
      exact ⟨nilI _ _, fun k ek => by simp [Value.ownBlock, List.getD] at ek, by simp⟩
    · have hj1 : j < 1 := hj
      omega
  have HB0 : Below B W (W.alloc (.cells #[.slice none 0 0] 28)) := by rw [← hB]; exact (Below.refl _ _).alloc (Nat.le_refl _) _
  have sz0 : (W.alloc (.cells #[.slice none 0 0] 28)).heap.size = B + 1 := by rw [World.size_alloc, hB]
  have HR1 : Hid (RowsL ((W.alloc (.cells #[.slice none 0 0] 28)).iter s 0) B ((W.alloc (.cells #[.slice none 0 0] 28)).iter s 0).heap.size (.slice (some ⟨B, 0, none⟩) 1 1) (rowsp (s.data.toList.take 0))) := by
    have b : Below (B + 1) (W.alloc (.cells #[.slice none 0 0] 28)) ((W.alloc (.cells #[.slice none 0 0] 28)).iter s 0) := (Below.refl _ _).alloc (by omega) _
    exact (HR0.below b (by omega)).mono (Nat.le_refl _) (by have := b.size; omega) (Nat.le_refl _)
  have HB1 : Hid (Below B W ((W.alloc (.cells #[.slice none 0 0] 28)).iter s 0)) := HB0.alloc (by omega) _
  have HK1 : Hid (((W.alloc (.cells #[.slice none 0 0] 28)).iter s 0).heap[B + 1]? = some (.stringIter s 0)) := by
    have := World.iter_heap (W.alloc (.cells #[.slice none 0 0] 28)) s 0
    rw [sz0] at this
    exact this
  have HBE := Lib.hid hB
  clear HR0 HB0
  go_enter Try.func45, Try.ntmps45
  go_wp2
  obtain ⟨wo, hwo⟩ : ∃ wo, (W.alloc (.cells #[.slice none 0 0] 28)).iter s 0 = wo := ⟨_, rfl⟩
  rw [hwo] at HR1 HB1 HK1 ⊢
  clear hwo hB sz0
  obtain ⟨k, hk⟩ : ∃ k, B + 1 = k := ⟨_, rfl⟩
  rw [hk] at HK1 ⊢
  have Bk : B ≤ k := by omega
  clear hk
  go_loopw [4] (fun rv wr => ∃ j : Nat, j ≤ s.size ∧ Hid (wr.heap[k]? = some (.stringIter s j)) ∧ Hid (RowsL wr B wr.heap.size rv (rowsp (s.data.toList.take j))) ∧ Hid (Below B W wr) ∧ Hid (okp (s.data.toList.take j))) (fun _ wr => s.size - wr.iterPos k)
  case atStart => exact ⟨0, by omega, HK1, HR1, HB1, fun b hb => by simp at hb⟩
  case round =>
    obtain ⟨j, hj, hK, hQ, hBl, hO⟩ := hrel
    have NLr : Hid (∀ V : World, RowsL V B V.heap.size (.slice none 0 0) []) := fun V => RowsL.nil V B V.heap.size (Nat.le_refl _)
    have MP := Lib.hid (iterPos_of hK.out)
    have SBr : B ≤ wr.heap.size := by have := hBl.out.size; have := HBE.out; omega
    by_cases c : j < s.size
    case neg =>
      have ej : j = s.size := by omega
      have NX := run_next_end_at (P := Try.prog) wr k s j 0 hK.out c
      have Q2 := Lib.hid hQ.out
      have O2 := Lib.hid hO.out
      rw [ej, TM.out] at Q2 O2
      have V := Lib.hid (YS.out O2.out)
      have R4 := Lib.hid (Q2.out.mono (B' := B) (Nat.le_refl _) (Nat.le_refl _) (Nat.le_refl _))
      clear ej
      go_wp2
      go_ret2
      exact ⟨_, by rw [V.out]; rfl, (fun _ => by rw [HBE.out]; exact R4.out), by rw [HBE.out]; exact hBl.out⟩
    obtain ⟨A, a, e1, lA, la, e2, e3⟩ := SN.out j
    have tl := TL.out j hj
    rw [tl] at lA la
    have ts := TS.out j c
    have mem := MEM.out j c
    have hQ1 := hQ.out
    rw [e1] at hQ1
    obtain ⟨g, cap, rfl⟩ := hQ1.shapeC (by rw [List.length_append, List.length_singleton]; omega)
    obtain ⟨n, hn'⟩ : ∃ n, (A ++ [a]).length = n := ⟨_, rfl⟩
    rw [hn'] at hQ1 hQ ⊢
    obtain ⟨mm, hmm⟩ : ∃ m, A.length = m := ⟨_, rfl⟩
    have hn : n = mm + 1 := by rw [← hn', List.length_append, hmm, List.length_singleton]
    rw [hmm] at lA
    have wl := IntWalk.i64_in ((n : Int) - 1) (by omega)
    have en : (n : Int) - 1 = (mm : Int) := by omega
    rw [en] at wl
    have m0 : (0 : Int) ≤ (mm : Int) := by omega
    have mn : (mm : Int) < (n : Int) := by omega
    have HNN := Lib.hid hn'
    have HMM := Lib.hid hmm
    clear hQ1 hn' hmm hn
    by_cases asc : s[j].toNat < 128
    case neg =>
      have NX := run_next_any_at (P := Try.prog) wr k s j 0 hK.out c
      have r1 := rune7 s j c asc
      have r2 := rune7_hi s j
      have V := Lib.hid (NB.out s[j] mem (fun h => asc (by rw [h]; decide)) (fun h => asc (by rcases h with h | ⟨-, h⟩ <;> omega)))
      have BI := Lib.hid (below_iterAt hBl.out (k := k) Bk s (j + (Go.Utf8.decode s j).2))
      obtain ⟨r, hr⟩ : ∃ r, (Go.Utf8.decode s j).1 = r := ⟨_, rfl⟩
      obtain ⟨wi, hwi⟩ : ∃ wi, wr.iterAt k s (j + (Go.Utf8.decode s j).2) = wi := ⟨_, rfl⟩
      rw [hr] at r1 r2
      rw [hr, hwi] at NX
      rw [hwi] at BI
      have q1 : ((r : Int) == 47) = false := by simp; omega
      have q1' : (r == 47) = false := by simp; omega
      have q0 : ((r : Int) == 46) = false := by simp; omega
      have q0' : (r == 46) = false := by simp; omega
      have q2 : decide ((48 : Int) ≤ (r : Int)) = true := decide_eq_true (by omega)
      have q2' : decide (48 ≤ r) = true := decide_eq_true (by omega)
      have q3 : decide ((r : Int) ≤ 57) = false := decide_eq_false (by omega)
      have q3' : decide (r ≤ 57) = false := decide_eq_false (by omega)
      clear hr hwi e1 e2 e3 ts mem asc
      go_wp2
      go_ret2
      exact ⟨_, by rw [V.out]; rfl, (fun h => by rw [V.out] at h; cases h), by rw [HBE.out]; exact BI.out⟩
    have NX := run_next_ascii_at (P := Try.prog) wr k s j 0 hK.out c asc
    have BI := Lib.hid (below_iterAt hBl.out (k := k) Bk s (j + 1))
    have QI := Lib.hid (hQ.out.iterAt hK.out (j + 1))
    have KI := Lib.hid (iterAt_heap wr k s j (j + 1) hK.out)
    have SI := iterAt_size wr k s (j + 1)
    rw [← SI, e1] at QI
    obtain ⟨wi, hwi⟩ : ∃ wi, wr.iterAt k s (j + 1) = wi := ⟨_, rfl⟩
    rw [hwi] at NX BI QI KI SI
    have SB : B ≤ wi.heap.size := by have := BI.out.size; have := HBE.out; omega
    have ok1 : Hid ((s[j] = 47 ∨ dgp s[j]) → okp (s.data.toList.take (j + 1))) := fun h b hb => by
      rw [ts] at hb
      rcases List.mem_append.1 hb with hb | hb
      · exact hO.out b hb
      · simp at hb; rw [hb]; exact h
    obtain ⟨x, hx⟩ : ∃ x, s[j] = x := ⟨_, rfl⟩
    rw [hx] at ts mem ok1 asc
    have xn : s[j].toNat = x.toNat := by rw [hx]
    rw [xn] at NX
    have E2 := Lib.hid e2
    have E3 := Lib.hid e3
    have TT := Lib.hid ts
    clear hwi hx xn e1 e2 e3 ts SI
    by_cases h47 : x = 47
    · have q1 : ((x.toNat : Int) == 47) = true := by rw [h47]; rfl
      have q1' : (x.toNat == 47) = true := by rw [h47]; rfl
      have HO := Lib.hid (ok1.out (Or.inl h47))
      have ET : Hid (A ++ [a] ++ [[]] = rowsp (s.data.toList.take (j + 1))) := by unfold Hid; rw [TT.out, h47]; exact E3.out.symm
      have hlen : (A ++ [a]).length < 1000000000 := by rw [HNN.out]; omega
      clear h47 asc mem
      go_wp2_with (at_builtin; refine wpList_pushRk _ (by rfl) _ _ (by rfl) B wi.heap.size _ _ _ _ (by rfl) QI.out (nilI _ _) _ (by rfl) hlen SB ?_; intro v' w6 hn hb hki; have HN' := Lib.hid hn; have HB2 := Lib.hid hb; have HK2 := Lib.hid (hki _ _ _ KI.out); clear hn hb hki)
      go_roundw
      case rel => exact ⟨j + 1, by omega, HK2, by unfold Hid; rw [← ET.out]; exact HN'.out, BI.out.trans HB2.out, HO⟩
      case measure => have m2 := iterPos_of HK2.out; have m1 := MP.out; rw [m2, m1]; omega
    have q1 : ((x.toNat : Int) == 47) = false := by
      have : x.toNat ≠ 47 := fun h => h47 (UInt8.toNat_inj.1 h)
      simp; omega
    have q1' : (x.toNat == 47) = false := by
      have : x.toNat ≠ 47 := fun h => h47 (UInt8.toNat_inj.1 h)
      simpa using this
    obtain ⟨-, ua, uc, hcell⟩ := QI.out.last
    rw [HMM.out] at hcell
    have QN := Lib.hid QI.out
    have hlen : a.length < 1000000000000 := by omega
    by_cases h46 : x.toNat = 46
    · have q0 : ((x.toNat : Int) == 46) = true := by simp; omega
      have q0' : (x.toNat == 46) = true := by simp [h46]
      have HO := Lib.hid (ok1.out (Or.inr (Or.inl h46)))
      have ET : Hid (A ++ [a ++ [-1]] = rowsp (s.data.toList.take (j + 1))) := by unfold Hid; rw [TT.out, E2.out x h47, vlp_dot h46]
      clear h46 h47 mem asc
      go_wp2_with (at_builtin; (refine wpList_growR _ (by rfl) _ _ (by rfl) B _ g _ _ _ A a QN.out (by rw [HMM.out]; exact hcell) (by rfl) (-1) _ (by rfl) hlen SB ?_; rw [HMM.out]; intro v' w6 hsh hn hold hf hb hki; obtain ⟨ub, ud, hsh⟩ := hsh; subst hsh; obtain ⟨old, hold⟩ := hold; have HN' := Lib.hid hn; have HB2 := Lib.hid hb; have HK2 := Lib.hid (hki _ _ _ KI.out); clear hn hb hki))
      go_roundw
      case rel => exact ⟨j + 1, by omega, HK2, by unfold Hid; rw [← ET.out]; exact HN'.out, BI.out.trans HB2.out, HO⟩
      case measure => have m2 := iterPos_of HK2.out; have m1 := MP.out; rw [m2, m1]; omega
    have q0 : ((x.toNat : Int) == 46) = false := by simp; omega
    have q0' : (x.toNat == 46) = false := by simp [h46]
    by_cases g1 : 48 ≤ x.toNat
    case neg =>
      have q2 : decide ((48 : Int) ≤ (x.toNat : Int)) = false := decide_eq_false (by omega)
      have q2' : decide (48 ≤ x.toNat) = false := decide_eq_false (by omega)
      have V := Lib.hid (NB.out x mem h47 (fun h => h.elim h46 (fun h => g1 h.1)))
      clear g1 h46 h47 mem asc
      go_wp2
      go_ret2
      exact ⟨_, by rw [V.out]; rfl, (fun h => by rw [V.out] at h; cases h), by rw [HBE.out]; exact BI.out⟩
    have q2 : decide ((48 : Int) ≤ (x.toNat : Int)) = true := decide_eq_true (by omega)
    have q2' : decide (48 ≤ x.toNat) = true := decide_eq_true (by omega)
    by_cases g2 : x.toNat ≤ 57
    case neg =>
      have q3 : decide ((x.toNat : Int) ≤ 57) = false := decide_eq_false (by omega)
      have q3' : decide (x.toNat ≤ 57) = false := decide_eq_false (by omega)
      have V := Lib.hid (NB.out x mem h47 (fun h => h.elim h46 (fun h => g2 h.2)))
      clear g1 g2 h46 h47 mem asc
      go_wp2
      go_ret2
      exact ⟨_, by rw [V.out]; rfl, (fun h => by rw [V.out] at h; cases h), by rw [HBE.out]; exact BI.out⟩
    have q3 : decide ((x.toNat : Int) ≤ 57) = true := decide_eq_true (by omega)
    have q3' : decide (x.toNat ≤ 57) = true := decide_eq_true (by omega)
    have HO := Lib.hid (ok1.out (Or.inr (Or.inr ⟨g1, g2⟩)))
    have ET : Hid (A ++ [a ++ [(x.toNat : Int) - 48]] = rowsp (s.data.toList.take (j + 1))) := by unfold Hid; rw [TT.out, E2.out x h47, vlp_dig ⟨g1, g2⟩]
    have wu := IntWalk.i32_in ((x.toNat : Int) - 48) (by omega)
    have wv := IntWalk.i64_in ((x.toNat : Int) - 48) (by omega)
    clear g1 g2 h46 h47 mem asc
    go_wp2_with (at_builtin; (refine wpList_growR _ (by rfl) _ _ (by rfl) B _ g _ _ _ A a QN.out (by rw [HMM.out]; exact hcell) (by rfl) ((x.toNat : Int) - 48) _ (by rfl) hlen SB ?_; rw [HMM.out]; intro v' w6 hsh hn hold hf hb hki; obtain ⟨ub, ud, hsh⟩ := hsh; subst hsh; obtain ⟨old, hold⟩ := hold; have HN' := Lib.hid hn; have HB2 := Lib.hid hb; have HK2 := Lib.hid (hki _ _ _ KI.out); clear hn hb hki))
    go_roundw
    case rel => exact ⟨j + 1, by omega, HK2, by unfold Hid; rw [← ET.out]; exact HN'.out, BI.out.trans HB2.out, HO⟩
    case measure => have m2 := iterPos_of HK2.out; have m1 := MP.out; rw [m2, m1]; omega

set_option maxRecDepth 100000 in
set_option maxHeartbeats 4000000 in
theorem iReadSquare (s : ByteArray) (hs : s.size ≤ 1048576) (W : World) :
    Calls Try.prog 28 #[.string s] W fun e w' => ∃ r, e = .returned (.tuple #[r, .bool (ReadSquare_1 s)]) ∧ RowsL w' W.heap.size w'.heap.size r (ReadSquare_0 s) ∧ Below W.heap.size W w' := by
  have HR := Lib.hid (ird s hs W)
  have SQ : Hid (∀ (V : World) (v : Value), RowsAt V v (rowsp s.data.toList) → Calls Try.prog 47 #[v] V fun e w' => e = .returned (.bool (sqB (rowsp s.data.toList))) ∧ Below V.heap.size V w') := fun V v h => iVs _ V v h
  have NO : Hid (okpB s.data.toList = false → ReadSquare_1 s = false ∧ ReadSquare_0 s = []) := readsq_no
  have NS : Hid (sqB (rowsp s.data.toList) = false → ReadSquare_1 s = false ∧ ReadSquare_0 s = []) := readsq_nosq
  have YS : Hid (okpB s.data.toList = true → sqB (rowsp s.data.toList) = true → ReadSquare_1 s = true ∧ ReadSquare_0 s = rowsp s.data.toList) := readsq_yes
  obtain ⟨R, hR⟩ : ∃ R, rowsp s.data.toList = R := ⟨_, rfl⟩
  simp only [hR] at HR SQ NS YS
  obtain ⟨k, hk⟩ : ∃ k, okpB s.data.toList = k := ⟨_, rfl⟩
  simp only [hk] at HR NO YS
  obtain ⟨z, hz⟩ : ∃ z, sqB R = z := ⟨_, rfl⟩
  simp only [hz] at SQ NS YS
  clear hR hk hz
  cases k with
  | false =>
    have V := Lib.hid (NO.out rfl)
    go_enter Try.func28, Try.ntmps28
    go_wp2_with fail
    refine HR.out.mono ?_
    rintro e w1 ⟨r, rfl, -, b1⟩
    have B1 := Lib.hid b1
    have NL : Hid (RowsL w1 W.heap.size w1.heap.size (.slice none 0 0) []) := RowsL.nil _ _ _ (Nat.le_refl _)
    clear b1
    go_wp2
    go_ret2
    exact ⟨_, by rw [V.out.1]; rfl, by rw [V.out.2]; exact NL.out, B1.out⟩
  | true =>
    go_enter Try.func28, Try.ntmps28
    go_wp2_with fail
    refine HR.out.mono ?_
    rintro e w1 ⟨r, rfl, hr, b1⟩
    have r1 := hr (by trivial)
    have R1 := Lib.hid r1
    have B1 := Lib.hid b1
    have SS := Lib.hid (SQ.out w1 _ r1.at)
    clear r1 b1 hr
    cases z with
    | false =>
      have V := Lib.hid (NS.out rfl)
      go_wp2_with fail
      refine SS.out.mono ?_
      rintro e w2 ⟨rfl, b2⟩
      have B2 := Lib.hid (t_chain B1.out b2)
      have NL : Hid (RowsL w2 W.heap.size w2.heap.size (.slice none 0 0) []) := RowsL.nil _ _ _ (Nat.le_refl _)
      clear b2
      go_wp2
      go_ret2
      exact ⟨_, by rw [V.out.1]; rfl, by rw [V.out.2]; exact NL.out, B2.out⟩
    | true =>
      have V := Lib.hid (YS.out (by trivial) (by trivial))
      go_wp2_with fail
      refine SS.out.mono ?_
      rintro e w2 ⟨rfl, b2⟩
      have B2 := Lib.hid (t_chain B1.out b2)
      have R2 := Lib.hid ((R1.out.below b2 (Nat.le_refl _)).mono (B' := W.heap.size) (Nat.le_refl _) b2.size (Nat.le_refl _))
      clear b2
      go_wp2
      go_ret2
      exact ⟨_, by rw [V.out.1]; rfl, by rw [V.out.2]; exact R2.out, B2.out⟩

set_option maxRecDepth 100000 in
set_option maxHeartbeats 4000000 in
theorem iReadPartial (s : ByteArray) (hs : s.size ≤ 1048576) (W : World) :
    Calls Try.prog 26 #[.string s] W fun e w' => ∃ r, e = .returned (.tuple #[r, .bool (ReadPartial_1 s)]) ∧ RowsL w' W.heap.size w'.heap.size r (ReadPartial_0 s) ∧ Below W.heap.size W w' := by
  have HR := Lib.hid (ird s hs W)
  have SQ : Hid (∀ (V : World) (v : Value), RowsAt V v (rowsp s.data.toList) → Calls Try.prog 12 #[v] V fun e w' => e = .returned (.bool (ptB (rowsp s.data.toList))) ∧ Below V.heap.size V w') := fun V v h => iVpt _ V v h
  have NO : Hid (okpB s.data.toList = false → ReadPartial_1 s = false ∧ ReadPartial_0 s = []) := readpt_no
  have NS : Hid (ptB (rowsp s.data.toList) = false → ReadPartial_1 s = false ∧ ReadPartial_0 s = []) := readp_nopt
  have YS : Hid (okpB s.data.toList = true → ptB (rowsp s.data.toList) = true → ReadPartial_1 s = true ∧ ReadPartial_0 s = rowsp s.data.toList) := readpt_yes
  obtain ⟨R, hR⟩ : ∃ R, rowsp s.data.toList = R := ⟨_, rfl⟩
  simp only [hR] at HR SQ NS YS
  obtain ⟨k, hk⟩ : ∃ k, okpB s.data.toList = k := ⟨_, rfl⟩
  simp only [hk] at HR NO YS
  obtain ⟨z, hz⟩ : ∃ z, ptB R = z := ⟨_, rfl⟩
  simp only [hz] at SQ NS YS
  clear hR hk hz
  cases k with
  | false =>
    have V := Lib.hid (NO.out rfl)
    go_enter Try.func26, Try.ntmps26
    go_wp2_with fail
    refine HR.out.mono ?_
    rintro e w1 ⟨r, rfl, -, b1⟩
    have B1 := Lib.hid b1
    have NL : Hid (RowsL w1 W.heap.size w1.heap.size (.slice none 0 0) []) := RowsL.nil _ _ _ (Nat.le_refl _)
    clear b1
    go_wp2
    go_ret2
    exact ⟨_, by rw [V.out.1]; rfl, by rw [V.out.2]; exact NL.out, B1.out⟩
  | true =>
    go_enter Try.func26, Try.ntmps26
    go_wp2_with fail
    refine HR.out.mono ?_
    rintro e w1 ⟨r, rfl, hr, b1⟩
    have r1 := hr (by trivial)
    have R1 := Lib.hid r1
    have B1 := Lib.hid b1
    have SS := Lib.hid (SQ.out w1 _ r1.at)
    clear r1 b1 hr
    cases z with
    | false =>
      have V := Lib.hid (NS.out rfl)
      go_wp2_with fail
      refine SS.out.mono ?_
      rintro e w2 ⟨rfl, b2⟩
      have B2 := Lib.hid (t_chain B1.out b2)
      have NL : Hid (RowsL w2 W.heap.size w2.heap.size (.slice none 0 0) []) := RowsL.nil _ _ _ (Nat.le_refl _)
      clear b2
      go_wp2
      go_ret2
      exact ⟨_, by rw [V.out.1]; rfl, by rw [V.out.2]; exact NL.out, B2.out⟩
    | true =>
      have V := Lib.hid (YS.out (by trivial) (by trivial))
      go_wp2_with fail
      refine SS.out.mono ?_
      rintro e w2 ⟨rfl, b2⟩
      have B2 := Lib.hid (t_chain B1.out b2)
      have R2 := Lib.hid ((R1.out.below b2 (Nat.le_refl _)).mono (B' := W.heap.size) (Nat.le_refl _) b2.size (Nat.le_refl _))
      clear b2
      go_wp2
      go_ret2
      exact ⟨_, by rw [V.out.1]; rfl, by rw [V.out.2]; exact R2.out, B2.out⟩
end Go.Proofs.Ytaipgfahkpnooaa
