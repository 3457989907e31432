/-
  impl.CountVoltWalks. (A plain seat of bases.)
-/
import Derived.Test.YtggammnpdmfgjaaYd
namespace Go.Proofs.Ytggammnpdmfgjaa
open Go.RowKit

theorem run_partI (g : Nat → Int) (i : Nat) (h : i < 62) (w : World) : (Go.part 2 (intsA (fL g 62)) i).run Try.prog w = .ok (.int .i64 (g i)) w := by
  unfold Go.part
  simp [intsA_at (fL g 62) i (by rw [fL_length]; exact h), fL_el g h]
theorem run_indexI (g : Nat → Int) (i : Nat) (w : World) (h : i < 62) : (Instr.index 79 (.agg (intsA (fL g 62))) (.int .i64 i)).run Try.prog w = .ok (.int .i64 (g i)) w := by
  simp [Instr.index, run_underlying Try.underlying79, run_partI g i h, asIntOf]
  intro h'; omega

set_option maxHeartbeats 800000 in
theorem implCv_no (n m K s : Int) (v : Value) (k : Nat) (fs : List Int) (w : World) (hs : Sa w v k fs) (hl : k ≤ 9223372036854775807) (hg : isB n m k fs = false) :
    Calls Try.prog 21 #[.agg #[.int .i64 n, .int .i64 m, v], .int .i64 K, .int .i64 s] w fun e w' => e = .returned (.tuple #[.int .i64 0, .int .i64 1]) ∧ Below w.heap.size w w' := by
  have D0 : Below w.heap.size w (w.alloc (.cells #[.int .i64 n, .int .i64 m, v] 33)) := (Below.refl _ _).alloc (Nat.le_refl _) _
  have his := implIs_any n m v k fs (w.alloc (.cells #[.int .i64 n, .int .i64 m, v] 33)) (hs.below D0) hl
  rw [hg] at his
  clear hs hg
  go_enter Try.func21, Try.ntmps21
  go_wp2_with (go_at_call 26; refine his.mono ?_; rintro e w1 ⟨rfl, hb1⟩)
  go_ret2
  exact ⟨rfl, D0.trans (hb1.mono (by simp))⟩

set_option maxHeartbeats 1600000 in
theorem implCv_out (n m k : Nat) (K s : Int) (v : Value) (fs : List Int) (w : World) (hs : Sa w v k fs) (hl : k ≤ 9223372036854775807) (hg : isB n m k fs = true) (hc : cvOk m K s = false) :
    Calls Try.prog 21 #[.agg #[.int .i64 n, .int .i64 m, v], .int .i64 K, .int .i64 s] w fun e w' => e = .returned (.tuple #[.int .i64 0, .int .i64 2]) ∧ Below w.heap.size w w' := by
  have D0 : Below w.heap.size w (w.alloc (.cells #[.int .i64 n, .int .i64 m, v] 33)) := (Below.refl _ _).alloc (Nat.le_refl _) _
  have HG0 := Lib.hid (World.alloc_heap_new w (.cells #[.int .i64 n, .int .i64 m, v] 33))
  have his := implIs_any n m v k fs (w.alloc (.cells #[.int .i64 n, .int .i64 m, v] 33)) (hs.below D0) hl
  rw [hg] at his
  have HIS := Lib.hid his
  obtain ⟨r2, h2⟩ : ∃ r, r = (decide (0 ≤ s) && decide (s < (m : Int))) := ⟨_, rfl⟩
  have HI2 := Lib.hid fun W : World => rest_val (m : Int) s W r2 h2.symm
  by_cases k1 : K < 0
  · clear hs hg h2 hc his
    go_enter Try.func21, Try.ntmps21
    go_wp2_with (go_at_call 26; refine HIS.out.mono ?_; rintro e w1 ⟨rfl, hb1⟩; obtain ⟨⟨b0, b1, b2⟩, -⟩ := three_cells ((hb1.block w.heap.size (by simp)).trans HG0.out))
    go_ret2
    exact ⟨rfl, D0.trans (hb1.mono (by simp))⟩
  · by_cases k2 : K > 14
    · clear hs hg h2 hc his
      go_enter Try.func21, Try.ntmps21
      go_wp2_with (go_at_call 26; refine HIS.out.mono ?_; rintro e w1 ⟨rfl, hb1⟩; obtain ⟨⟨b0, b1, b2⟩, -⟩ := three_cells ((hb1.block w.heap.size (by simp)).trans HG0.out))
      go_ret2
      exact ⟨rfl, D0.trans (hb1.mono (by simp))⟩
    · obtain rfl : r2 = false := by
        rw [h2]
        unfold cvOk at hc
        rw [decide_eq_true (by omega : 0 ≤ K), decide_eq_true (by omega : K ≤ 14), Bool.true_and, Bool.true_and] at hc
        rw [← hc]
        congr 1
        exact decide_eq_decide.2 (by omega)
      clear hs hg h2 hc his
      go_enter Try.func21, Try.ntmps21
      go_wp2_with (go_at_call 26; refine HIS.out.mono ?_; rintro e w1 ⟨rfl, hb1⟩; obtain ⟨⟨b0, b1, b2⟩, -⟩ := three_cells ((hb1.block w.heap.size (by simp)).trans HG0.out))
      refine (HI2.out w1).mono ?_
      rintro e w1' ⟨rfl, rfl⟩
      go_wp2_with fail
      go_ret2
      exact ⟨rfl, D0.trans (hb1.mono (by simp))⟩

set_option maxRecDepth 100000 in
set_option maxHeartbeats 6400000 in
theorem implCv_yes (n m k cap K s : Nat) (sa : Option Addr) (fs : List Int) (w : World) (hs : Sa w (.slice sa k cap) k fs) (hg : isB n m k fs = true) (hav : AvOk n m k fs) (h1 : 1 ≤ n ∧ n ≤ 10 ∧ 1 ≤ m ∧ m ≤ 62 ∧ n * m ≤ 62 ∧ k ≤ 16) (hK : K ≤ 14) (hsm : s < m) :
    Calls Try.prog 21 #[.agg #[.int .i64 n, .int .i64 m, .slice sa k cap], .int .i64 K, .int .i64 s] w fun e w' => e = .returned (.tuple #[.int .i64 (wkV m fs k K s n), .int .i64 0]) ∧ Below w.heap.size w w' := by
  have h1' := h1
  obtain ⟨n1, n2, m1, m2, nm, k16⟩ := h1
  have D0 : Below w.heap.size w (w.alloc (.cells #[.int .i64 n, .int .i64 m, .slice sa k cap] 33)) := (Below.refl _ _).alloc (Nat.le_refl _) _
  have his := implIs_any n m (.slice sa k cap) k fs (w.alloc (.cells #[.int .i64 n, .int .i64 m, .slice sa k cap] 33)) (hs.below D0) (by omega)
  rw [hg] at his
  have HG0 := Lib.hid (World.alloc_heap_new w (.cells #[.int .i64 n, .int .i64 m, .slice sa k cap] 33))
  obtain ⟨W0, hW0⟩ : ∃ W0, W0 = w.alloc (.cells #[.int .i64 n, .int .i64 m, .slice sa k cap] 33) := ⟨_, rfl⟩
  have sz0 : w.heap.size + 1 ≤ W0.heap.size := by rw [hW0]; simp
  rw [← hW0] at HG0 D0 his
  have HIS := Lib.hid his
  have HWF : Hid (∀ (W1 : World) (st : Nat), Below w.heap.size w W1 → st < n * m → Calls Try.prog 44 #[.agg #[.int .i64 n, .int .i64 m, .slice sa k cap], .int .i64 st, .int .i64 K] W1 fun e w' => e = .returned (.agg (intsA (fL (wkT m fs k st K) 62))) ∧ Below W1.heap.size W1 w') := fun W1 st h hst =>
    callsIn_wide.1 (walksFrom_in n m k cap st K sa fs W1 (hs.below h) hav h1' hst hK)
  obtain ⟨NM, hNM⟩ : ∃ NM, NM = n * m := ⟨_, rfl⟩
  rw [← hNM] at nm HWF
  have HNM := Lib.hid hNM
  obtain ⟨R, hR⟩ : ∃ R, R = wkV m fs k K s n := ⟨_, rfl⟩
  have HR := Lib.hid hR
  rw [← hR]
  have l2 : (decide ((0 : Int) ≤ (s : Int)) && decide ((s : Int) < (m : Int))) = true := by simp; omega
  have HI2 := Lib.hid fun W : World => rest_val (m : Int) (s : Int) W true l2
  have kk1 : ¬ (K : Int) < 0 := by omega
  have kk2 : ¬ (K : Int) > 14 := by omega
  obtain ⟨⟨b0, b1, b2⟩, -⟩ := three_cells HG0.out
  clear hs hg hav his hNM hR l2 h1'
  go_enter Try.func21, Try.ntmps21
  go_upto_region 1 with fail
  rw [← hW0]
  clear hW0
  go_wp2_with fail
  refine HIS.out.mono ?_
  rintro e w1 ⟨rfl, hb1⟩
  have HB1 := Lib.hid ((hb1.block w.heap.size (by omega)).trans HG0.out)
  have E1 := D0.trans (hb1.mono (by omega))
  clear HIS hb1 HG0 b0 b1 b2
  obtain ⟨⟨b0, b1, b2⟩, -⟩ := three_cells HB1.out
  go_wp2_with fail
  refine (HI2.out w1).mono ?_
  rintro e w1' ⟨rfl, rfl⟩
  clear HI2
  go_wp2_with fail
  go_loopw [8, 29] (fun tv iv wr => ∃ v : Nat, v ≤ n ∧ iv = .int .i64 v ∧ tv = .int .i64 (wkV m fs k K s v) ∧ Below w.heap.size w wr ∧ Hid (wr.heap[w.heap.size]? = some (.cells #[.int .i64 n, .int .i64 m, .slice sa k cap] 33 (0, 0)))) (fun _ i _ => n - (intOf i).toNat)
  case atStart => exact ⟨0, Nat.zero_le _, rfl, rfl, E1, HB1⟩
  case round =>
    clear HB1 E1 b0 b1 b2
    obtain ⟨v, hvn, rfl, rfl, hE, HB⟩ := hrel
    obtain ⟨⟨b0, b1, b2⟩, -⟩ := three_cells HB.out
    have hsz : w.heap.size + 1 ≤ wr.heap.size := (Array.getElem?_eq_some_iff.1 HB.out).1
    by_cases hlv : v < n
    · have hlvi : (v : Int) < n := by omega
      have hlm := mul_in hlv (show s < m by omega)
      have hl0 := mul_in hlv (show 0 < m by omega)
      rw [← HNM.out] at hlm hl0
      obtain ⟨T, hT⟩ : ∃ T, T = wkV m fs k K s v := ⟨_, rfl⟩
      have HTN : Hid (wkV m fs k K s (v + 1) = IntKind.i64.wrap (T + wkT m fs k (v * m) K (v * m + s))) := by show _ = _; rw [hT]; rfl
      rw [← hT]
      obtain ⟨q, hq⟩ : ∃ q, q = v * m := ⟨_, rfl⟩
      have eq : (v : Int) * (m : Int) = (q : Int) := by rw [hq]; push_cast; rfl
      rw [← hq] at hlm hl0 HTN
      have g1 : IntKind.i64.wrap (q : Int) = (q : Int) := IntWalk.i64_in _ (by omega)
      obtain ⟨qs, hqs⟩ : ∃ qs, qs = q + s := ⟨_, rfl⟩
      have eqs : (q : Int) + (s : Int) = (qs : Int) := by omega
      have g2 : IntKind.i64.wrap (qs : Int) = (qs : Int) := IntWalk.i64_in _ (by omega)
      have g3 : IntKind.i64.wrap ((v : Int) + 1) = (v : Int) + 1 := IntWalk.i64_in _ (by omega)
      have hcw := HWF.out wr q hE (by omega)
      obtain ⟨cur, hcur⟩ : ∃ cur, cur = wkT m fs k q K := ⟨_, rfl⟩
      rw [← hcur, ← hqs] at HTN
      rw [← hcur] at hcw
      obtain ⟨zq, hzq⟩ : ∃ z, z = cur qs := ⟨_, rfl⟩
      rw [← hzq] at HTN
      obtain ⟨TT, hTT⟩ : ∃ TT, TT = IntKind.i64.wrap (T + zq) := ⟨_, rfl⟩
      have hTT' : IntKind.i64.wrap (T + zq) = TT := hTT.symm
      rw [← hTT] at HTN
      have hx : ∀ W : World, (Instr.index 79 (.agg (intsA (fL cur 62))) (.int .i64 qs)).run Try.prog W = .ok (.int .i64 zq) W := fun W => by rw [hzq]; exact run_indexI cur qs W (by omega)
      have HCW := Lib.hid hcw
      clear hT hq hqs hcur hzq hTT hcw
      go_wp2_with fail
      refine HCW.out.mono ?_
      rintro e w5 ⟨rfl, hb5⟩
      have hE5 := hE.trans (hb5.mono hE.size)
      have HB5 := Lib.hid ((hb5.block w.heap.size (by omega)).trans HB.out)
      clear HCW hb5 hE HB b0 b1 b2
      go_wp2_with fail
      refine ⟨⟨v + 1, by omega, by push_cast; rfl, ?_, hE5, HB5⟩, by simp [intOf]; omega⟩
      rw [HTN.out]
    · obtain rfl : v = n := by omega
      go_wp2_with fail
      go_ret2
      rw [HR.out]
      exact ⟨rfl, hE⟩

theorem implCv_any (n m K s : Int) (v : Value) (k : Nat) (fs : List Int) (w : World) (hs : Sa w v k fs) (hl : k ≤ 9223372036854775807) :
    Calls Try.prog 21 #[.agg #[.int .i64 n, .int .i64 m, v], .int .i64 K, .int .i64 s] w fun e w' => e = .returned (.tuple #[.int .i64 (CvN n m k fs K s), .int .i64 (CvC n m k fs K s)]) ∧ Below w.heap.size w w' := by
  unfold CvN CvC
  cases hg : isB n m k fs
  · exact implCv_no n m K s v k fs w hs hl hg
  · obtain ⟨N, M, rfl, rfl, h1, h2, h3, h4, h5, h6, hav⟩ := isB_nats hg
    have hf := hs.form
    obtain ⟨sa, cap, rfl⟩ : ∃ sa cap, v = .slice sa k cap := ⟨_, _, hf⟩
    cases hc : cvOk M K s
    · exact implCv_out N M k K s _ fs w hs hl hg hc
    · obtain ⟨a, b, rfl, rfl, ha, hb⟩ := cvOk_nats hc
      simp only [if_true, Int.toNat_natCast, Bool.true_and]
      exact implCv_yes N M k cap a b sa fs w hs hg hav ⟨h1, h2, h3, h4, h5, h6⟩ ha hb
end Go.Proofs.Ytggammnpdmfgjaa
