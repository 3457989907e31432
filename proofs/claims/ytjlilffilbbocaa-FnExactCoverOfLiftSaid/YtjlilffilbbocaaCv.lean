/-
  spec.CoverOfLift and impl.CoverOfLift. (A plain seat.)
-/
import Derived.Test.YtjlilffilbbocaaPi
import Derived.Test.YtjlilffilbbocaaBa5
namespace Go.Proofs.Ytjlilffilbbocaa
open Go.RowKit

/-- For each of the first k numbers the quotient by m. -/
def coverL (m : Int) (k : Nat) : List Int := (List.range k).map fun v : Nat => (v : Int) / m
theorem coverL_length (m : Int) (k : Nat) : (coverL m k).length = k := by simp [coverL]
theorem coverL_succ (m : Int) (k : Nat) : coverL m (k + 1) = coverL m k ++ [(k : Int) / m] := by simp [coverL, List.range_succ]
theorem coverL_at (m : Int) (k v : Nat) (h : v < k) : el (coverL m k) v = (v : Int) / m := by unfold el coverL; simp [h]
def CvL (n m : Int) (ka : Nat) (fs : List Int) : List Int := if isB n m ka fs then coverL m (n * m).toNat else []
def CvC (n m : Int) (ka : Nat) (fs : List Int) : Int := if isB n m ka fs then 0 else 1
theorem isB_parts {n m : Int} {ka : Nat} {fs : List Int} (h : isB n m ka fs = true) : 1 ≤ n ∧ 1 ≤ m ∧ m ≤ 62 ∧ 0 ≤ n * m ∧ n * m ≤ 62 := by
  unfold isB at h
  simp only [Bool.and_eq_true, decide_eq_true_eq] at h
  obtain ⟨⟨h1, _, h3, h4, h5, _⟩, _⟩ := h
  exact ⟨h1, h3, h4, Int.mul_nonneg (by omega) (by omega), h5⟩
theorem CvL_length (n m : Int) (ka : Nat) (fs : List Int) : (CvL n m ka fs).length ≤ 62 := by
  unfold CvL
  split
  · next h => rw [coverL_length]; have := isB_parts h; omega
  · simp
theorem div_small (k : Nat) (m : Int) (h1 : 1 ≤ m) (hk : k ≤ 62) : 0 ≤ (k : Int) / m ∧ (k : Int) / m ≤ 62 := by
  refine ⟨Int.ediv_nonneg (by omega) (by omega), ?_⟩
  have := Int.ediv_le_self m (show (0 : Int) ≤ k by omega)
  omega

set_option maxRecDepth 100000 in
set_option maxHeartbeats 1600000 in
theorem specCv_yes (n m : Int) (v : Value) (ka : Nat) (fs : List Int) (w : World) (hs : Sa w v ka fs) (hl : ka ≤ 9223372036854775807) (hb : isB n m ka fs = true) :
    Calls Try.prog 10 #[.agg #[.int .i64 n, .int .i64 m, v]] w fun e w' => LRes w.heap.size (coverL m (n * m).toNat) 0 e w' ∧ Below w.heap.size w w' := by
  have D0 : Below w.heap.size w (w.alloc (.cells #[.int .i64 n, .int .i64 m, v] 29)) := (Below.refl _ _).alloc (Nat.le_refl _) _
  have his := l03Is_any n m v ka fs _ (hs.below D0) hl
  rw [hb] at his
  obtain ⟨n1, m1, m2, p0, p1⟩ := isB_parts hb
  have hw : IntKind.i64.wrap (n * m) = n * m := IntWalk.i64_in _ ⟨by omega, by omega⟩
  obtain ⟨q, hq⟩ : ∃ q : Nat, n * m = (q : Int) := ⟨(n * m).toNat, by omega⟩
  have hq2 : (n * m).toNat = q := by omega
  rw [hq2]
  rw [hq] at hw
  have HQ := Lib.hid hq
  have q62 : q ≤ 62 := by omega
  have X0 := Lib.hid (World.alloc_heap_new w (.cells #[.int .i64 n, .int .i64 m, v] 29))
  obtain ⟨i0, hi, hz0, hz1, hz2⟩ := info_parts mk_info
  have HI := Lib.hid hi; have HI0 := Lib.hid hz0; have HI1 := Lib.hid hz1; have HI2 := Lib.hid hz2
  have hm0 : ¬ m = 0 := by omega
  have hm00 : (m == 0) = false := by rw [beq_eq_false_iff_ne]; omega
  clear hs hb hi hz0 hz1 hz2 hq hq2 p0 p1
  go_enter Try.func10, Try.ntmps10
  go_wp2_with (go_at_call 17; refine his.mono ?_; rintro e w1 ⟨rfl, hb1⟩)
  have l1 : w.heap.size + 1 ≤ w1.heap.size := by have := hb1.size; simpa using this
  have E1 : Below (w.heap.size + 1) (w.alloc (.cells #[.int .i64 n, .int .i64 m, v] 29)) w1 := hb1.mono (by simp)
  have hnil : Hid (Own (w1.alloc (.cells #[] 2)) (w.heap.size + 1) (.slice (some ⟨w1.heap.size, 0, none⟩) 0 0) (coverL m 0)) :=
    World.ownsRow_made w1 #[] 0 (base := w.heap.size + 1) (e := 2) (size := 1) l1 (by decide) rfl
  have E2 : Below (w.heap.size + 1) (w.alloc (.cells #[.int .i64 n, .int .i64 m, v] 29)) (w1.alloc (.cells #[] 2)) := E1.alloc l1 _
  clear hb1 his E1
  go_loopw [4, 5] (fun u i wr => ∃ k : Nat, k ≤ q ∧ i = .int .i64 k ∧ Hid (Own wr (w.heap.size + 1) u (coverL m k)) ∧ Below (w.heap.size + 1) (w.alloc (.cells #[.int .i64 n, .int .i64 m, v] 29)) wr) (fun _ i _ => q - (intOf i).toNat)
  case atStart => exact ⟨0, Nat.zero_le _, rfl, hnil, E2⟩
  case round =>
    clear hnil E2
    obtain ⟨k, hk, rfl, HO, hB⟩ := hrel
    have l0 : w.heap.size + 1 ≤ wr.heap.size := by have := hB.size; simpa using this
    obtain ⟨⟨b0, b1, b2⟩, -, -, -⟩ := three_cells ((hB.block w.heap.size (by omega)).trans X0.out)
    have hnm := HQ.out
    by_cases hlt : (k : Int) < q
    · have hkl : k < q := by omega
      have hk0 : (0 : Int) ≤ k := by omega
      have hlt2 : (k : Int) < n * m := by omega
      have hw2 : IntKind.i64.wrap (n * m) = n * m := by rw [hnm]; exact hw
      obtain ⟨d0, d1⟩ := div_small k m m1 (by omega)
      have hwd : IntKind.i64.wrap ((k : Int) / m) = (k : Int) / m := IntWalk.i64_in _ ⟨by omega, by omega⟩
      have ho := HO.out
      unfold Own at ho
      rw [coverL_length] at ho
      have HO2 := Lib.hid ho
      have HNM := Lib.hid hnm
      clear ho hnm
      go_wp2_with (at_builtin; refine wpList_append_own _ rfl _ _ 33 rfl (w.heap.size + 1) 2 i0 (.int .i64 0) 1 8 Try.underlying33 HI.out HI0.out HI1.out HI2.out rfl (by decide) _ _ _ rfl (World.ownsRow.alloc HO2.out _) ⟨wr.heap.size, 0, none⟩ 1 1 [.int .i64 ((k : Int) / m)] rfl rfl (cell_one_new _ _ _) (by simp [Value.oneCell']) (by unfold maxLen; omega) (by omega) (by simp; omega) ?_; intro u' w3 hown3 hgr3 _)
      have E3 := (hB.alloc l0 _).grown hgr3 (by simp; omega) (fun k e => (World.ownsRow.lt HO2.out k e).1)
      have HN : Hid (Own w3 (w.heap.size + 1) u' (coverL m (k + 1))) := by
        show World.ownsRow _ _ _ _ _ _ _
        rw [coverL_length, coverL_succ, List.map_append]
        exact hown3
      clear hown3 hgr3 HO2 HO b0 b1 b2 hlt2 hw2 hwd d0 d1 HNM
      go_wp2
      go_roundw
      case rel => exact ⟨k + 1, by omega, by go_num, HN, E3⟩
      case measure => simp [intOf]; omega
    · have hkl : k = q := by omega
      have hlt2 : ¬ (k : Int) < n * m := by omega
      have hw2 : IntKind.i64.wrap (n * m) = n * m := by rw [hnm]; exact hw
      subst hkl
      clear hnm
      go_wp2
      go_ret2
      exact ⟨⟨_, rfl, HO.out.base (by omega)⟩, D0.trans (hB.mono (by simp))⟩

set_option maxHeartbeats 800000 in
theorem specCv_no (n m : Int) (v : Value) (ka : Nat) (fs : List Int) (w : World) (hs : Sa w v ka fs) (hl : ka ≤ 9223372036854775807) (hb : isB n m ka fs = false) :
    Calls Try.prog 10 #[.agg #[.int .i64 n, .int .i64 m, v]] w fun e w' => LRes w.heap.size [] 1 e w' ∧ Below w.heap.size w w' := by
  have D0 : Below w.heap.size w (w.alloc (.cells #[.int .i64 n, .int .i64 m, v] 29)) := (Below.refl _ _).alloc (Nat.le_refl _) _
  have his := l03Is_any n m v ka fs _ (hs.below D0) hl
  rw [hb] at his
  clear hs hb
  go_enter Try.func10, Try.ntmps10
  go_wp2_with (go_at_call 17; refine his.mono ?_; rintro e w1 ⟨rfl, hb1⟩)
  go_ret2
  exact ⟨⟨_, rfl, Own.nil _ _⟩, D0.trans (hb1.mono (by simp))⟩
theorem specCv_any (n m : Int) (v : Value) (ka : Nat) (fs : List Int) (w : World) (hs : Sa w v ka fs) (hl : ka ≤ 9223372036854775807) :
    Calls Try.prog 10 #[.agg #[.int .i64 n, .int .i64 m, v]] w fun e w' => LRes w.heap.size (CvL n m ka fs) (CvC n m ka fs) e w' ∧ Below w.heap.size w w' := by
  cases hb : isB n m ka fs
  · rw [show CvL n m ka fs = [] by simp [CvL, hb], show CvC n m ka fs = 1 by simp [CvC, hb]]
    exact specCv_no n m v ka fs w hs hl hb
  · rw [show CvL n m ka fs = coverL m (n * m).toNat by simp [CvL, hb], show CvC n m ka fs = 0 by simp [CvC, hb]]
    exact specCv_yes n m v ka fs w hs hl hb

set_option maxRecDepth 100000 in
set_option maxHeartbeats 1600000 in
theorem implCv_yes (n m : Int) (v : Value) (ka : Nat) (fs : List Int) (w : World) (hs : Sa w v ka fs) (hl : ka ≤ 9223372036854775807) (hb : isB n m ka fs = true) :
    Calls Try.prog 11 #[.agg #[.int .i64 n, .int .i64 m, v]] w fun e w' => LRes w.heap.size (coverL m (n * m).toNat) 0 e w' ∧ Below w.heap.size w w' := by
  have D0 : Below w.heap.size w (w.alloc (.cells #[.int .i64 n, .int .i64 m, v] 29)) := (Below.refl _ _).alloc (Nat.le_refl _) _
  have his := implIs_any n m v ka fs _ (hs.below D0) hl
  rw [hb] at his
  obtain ⟨n1, m1, m2, p0, p1⟩ := isB_parts hb
  obtain ⟨q, hq⟩ : ∃ q : Nat, n * m = (q : Int) := ⟨(n * m).toNat, by omega⟩
  have hq2 : (n * m).toNat = q := by omega
  rw [hq2]
  have hw : IntKind.i64.wrap (n * m) = (q : Int) := by rw [hq]; exact IntWalk.i64_in _ ⟨by omega, by omega⟩
  have q62 : q ≤ 62 := by omega
  have hmk := run_mkInts q (by omega)
  have X0 := Lib.hid (World.alloc_heap_new w (.cells #[.int .i64 n, .int .i64 m, v] 29))
  have hm0 : ¬ m = 0 := by omega
  have hm00 : (m == 0) = false := by rw [beq_eq_false_iff_ne]; omega
  clear hs hb hq hq2 p0 p1
  go_enter Try.func11, Try.ntmps11
  go_wp2_with (go_at_call 8; refine his.mono ?_; rintro e w1 ⟨rfl, hb1⟩; obtain ⟨⟨b0, b1, b2⟩, -, -, -⟩ := three_cells ((hb1.block w.heap.size (by simp)).trans X0.out))
  have l1 : w.heap.size + 1 ≤ w1.heap.size := by have := hb1.size; simpa using this
  have E1 : Below (w.heap.size + 1) (w.alloc (.cells #[.int .i64 n, .int .i64 m, v] 29)) w1 := hb1.mono (by simp)
  clear hb1 his hmk b0 b1 b2
  go_loopw [5, 17] (fun _ i wr => ∃ k : Nat, k ≤ q ∧ i = .int .i64 k ∧ Hid (Blk wr w1.heap.size (part (coverL m q) k)) ∧ Below w1.heap.size w1 wr) (fun _ i _ => q - (intOf i).toNat)
  case atStart => exact ⟨0, Nat.zero_le _, rfl, by show Blk _ _ _; rw [part_zero, coverL_length]; exact Blk.new w1 _, (Below.refl _ _).alloc (Nat.le_refl _) _⟩
  case round =>
    obtain ⟨k, hk, rfl, HO, hB⟩ := hrel
    obtain ⟨⟨b0, b1, b2⟩, -, -, -⟩ := three_cells (((E1.trans (hB.mono l1)).block w.heap.size (by omega)).trans X0.out)
    by_cases hlt : (k : Int) < q
    · have hkl : k < q := by omega
      have hk0 : (0 : Int) ≤ k := by omega
      obtain ⟨d0, d1⟩ := div_small k m m1 (by omega)
      have hwd : IntKind.i64.wrap ((k : Int) / m) = (k : Int) / m := IntWalk.i64_in _ ⟨by omega, by omega⟩
      have hpl := part_length (coverL m q) k (by rw [coverL_length]; exact hk)
      rw [coverL_length] at hpl
      have hcell : wr.cell? ⟨w1.heap.size, k, none⟩ = some (.int .i64 (el (part (coverL m q) k) k)) := HO.out.cell (by omega)
      have hfr : wr.frozen? ⟨w1.heap.size, k, none⟩ = false := HO.out.frozen k
      have HS : Hid (Blk (wr.setCell ⟨w1.heap.size, k, none⟩ (.int .i64 ((k : Int) / m))) w1.heap.size (part (coverL m q) (k + 1))) := by
        show Blk _ _ _
        rw [← part_succ (coverL m q) k (by rw [coverL_length]; exact hkl), coverL_at m q k hkl]
        exact HO.out.set k _
      clear hpl HO
      go_wp2
      go_roundw
      case rel => exact ⟨k + 1, by omega, by go_num, HS, hB.setCell (p := ⟨w1.heap.size, k, none⟩) (Nat.le_refl _) _⟩
      case measure => simp [intOf]; omega
    · have hkl : k = q := by omega
      subst hkl
      have HF : Hid (Own wr w.heap.size (.slice (some ⟨w1.heap.size, 0, none⟩) k k) (coverL m k)) := by
        have h := HO.out
        have e := part_all (coverL m k)
        rw [coverL_length] at e
        rw [e] at h
        have := Own.of_blk h (B := w.heap.size) (by omega) (by rw [coverL_length]; unfold maxLen; omega)
        rw [coverL_length] at this
        exact this
      clear HO
      go_wp2
      go_ret2
      exact ⟨⟨_, rfl, HF.out⟩, (D0.trans (E1.mono (by simp))).trans (hB.mono (by omega))⟩

set_option maxHeartbeats 800000 in
theorem implCv_no (n m : Int) (v : Value) (ka : Nat) (fs : List Int) (w : World) (hs : Sa w v ka fs) (hl : ka ≤ 9223372036854775807) (hb : isB n m ka fs = false) :
    Calls Try.prog 11 #[.agg #[.int .i64 n, .int .i64 m, v]] w fun e w' => LRes w.heap.size [] 1 e w' ∧ Below w.heap.size w w' := by
  have D0 : Below w.heap.size w (w.alloc (.cells #[.int .i64 n, .int .i64 m, v] 29)) := (Below.refl _ _).alloc (Nat.le_refl _) _
  have his := implIs_any n m v ka fs _ (hs.below D0) hl
  rw [hb] at his
  clear hs hb
  go_enter Try.func11, Try.ntmps11
  go_wp2_with (go_at_call 8; refine his.mono ?_; rintro e w1 ⟨rfl, hb1⟩)
  go_ret2
  exact ⟨⟨_, rfl, Own.nil _ _⟩, D0.trans (hb1.mono (by simp))⟩
theorem implCv_any (n m : Int) (v : Value) (ka : Nat) (fs : List Int) (w : World) (hs : Sa w v ka fs) (hl : ka ≤ 9223372036854775807) :
    Calls Try.prog 11 #[.agg #[.int .i64 n, .int .i64 m, v]] w fun e w' => LRes w.heap.size (CvL n m ka fs) (CvC n m ka fs) e w' ∧ Below w.heap.size w w' := by
  cases hb : isB n m ka fs
  · rw [show CvL n m ka fs = [] by simp [CvL, hb], show CvC n m ka fs = 1 by simp [CvC, hb]]
    exact implCv_no n m v ka fs w hs hl hb
  · rw [show CvL n m ka fs = coverL m (n * m).toNat by simp [CvL, hb], show CvC n m ka fs = 0 by simp [CvC, hb]]
    exact implCv_yes n m v ka fs w hs hl hb
end Go.Proofs.Ytjlilffilbbocaa
