/-
  impl.leastSequence. (A plain seat.)
-/
import Derived.Test.YtaekecccpgcgiaaWq1
import Derived.Test.YtaekecccpgcgiaaBb
namespace Go.Proofs.Ytaekecccpgcgiaa
set_option maxRecDepth 100000
open Go.RowKit

/-- Plain numbers as a list of numbers. -/
def nI (l : List Nat) : List Int := l.map fun x : Nat => (x : Int)
theorem nI_length (l : List Nat) : (nI l).length = l.length := by simp [nI]
theorem nI_append (a b : List Nat) : nI (a ++ b) = nI a ++ nI b := by simp [nI]
/-- The sequence's cells: the numbers so far (the last one first in l), zeros behind. -/
def sqL (c : Nat) (l : List Nat) : List Int := nI l.reverse ++ List.replicate (c - l.length) 0
theorem sqL_length {c : Nat} {l : List Nat} (h : l.length ≤ c) : (sqL c l).length = c := by simp [sqL, nI_length]; omega
theorem sqL_nil (c : Nat) : sqL c [] = List.replicate c 0 := by simp [sqL, nI]
theorem sqL_zero {c : Nat} {l : List Nat} (h : l.length < c) : (sqL c l).set l.length 0 = sqL c l := by
  unfold sqL
  rw [List.set_append_right _ _ (by simp [nI_length])]
  congr 1
  obtain ⟨m, hm⟩ : ∃ m, c - l.length = m + 1 := ⟨c - l.length - 1, by omega⟩
  rw [hm]
  simp [nI_length, List.replicate_succ]
theorem sqL_set {c : Nat} {l : List Nat} (h : l.length < c) (j : Nat) : (sqL c l).set l.length (j : Int) = sqL c (j :: l) := by
  unfold sqL
  rw [List.set_append_right _ _ (by simp [nI_length])]
  obtain ⟨m, hm⟩ : ∃ m, c - l.length = m + 1 := ⟨c - l.length - 1, by omega⟩
  have hm2 : c - (j :: l).length = m := by simp; omega
  rw [hm, hm2]
  simp [nI, List.replicate_succ]
theorem sqL_all {c : Nat} {l : List Nat} (h : l.length = c) : sqL c l = nI l.reverse := by simp [sqL, h]
theorem el_set_self {zs : List Int} {i : Nat} (h : i < zs.length) (x : Int) : el (zs.set i x) i = x := by simp [el, h]
theorem bit_put (mt w : Nat) : (mt ||| 1 <<< w).testBit = fun y => mt.testBit y || y == w := by
  funext y
  rw [Nat.testBit_or, Nat.one_shiftLeft, Nat.testBit_two_pow]
  congr 1
  by_cases h : w = y
  · subst h; simp
  · have : (y == w) = false := by simp; omega
    rw [this]; simp [h]

set_option maxHeartbeats 3200000 in
theorem implSq_some (d c : Nat) (w : World) (F : WsS) (hd1 : 1 ≤ d) (hd : d ≤ 10) (hc1 : 1 ≤ c) (hc : c ≤ 1024) (hF : wsS d c c = F) (hok : F.ok = true) :
    Calls Try.prog 36 #[.int .i64 d, .int .i64 c] w fun e w' => (∃ u, e = .returned u ∧ Own w' w.heap.size u (nI F.sq.reverse)) ∧ Below w.heap.size w w' := by
  have hm1 := run_mkBools c (by omega)
  have hm2 := run_mkInts c (by omega)
  obtain ⟨W, hW⟩ : ∃ W, W = (w.alloc (.cells (boolsA (List.replicate c false)) 4)).alloc (.cells (intsA (List.replicate c 0)) 2) := ⟨_, rfl⟩
  have D0 : Below w.heap.size w W := by rw [hW]; exact ((Below.refl _ _).alloc (Nat.le_refl _) _).alloc (by simp) _
  have HB0 : Hid (BBlk W w.heap.size (boolsF c (fun y => Nat.testBit 0 y))) := by
    show BBlk _ _ _
    have : (fun y => Nat.testBit 0 y) = fun _ => false := by funext y; simp
    rw [this, boolsF_none, hW]
    exact (BBlk.new w _).alloc _
  have HQ0 : Hid (Blk W (w.heap.size + 1) (sqL c [])) := by
    show Blk _ _ _
    rw [sqL_nil, hW]
    have := Blk.new (w.alloc (.cells (boolsA (List.replicate c false)) 4)) (List.replicate c 0)
    rw [World.size_alloc] at this
    exact this
  have HF0 : Hid (wsRun d c (c - 0) ⟨c - 1, 0, [], true⟩ = F) := hF
  have HOK := Lib.hid hok
  clear hF hok
  have hd0 : (0 : Int) ≤ d := by omega
  have hc0 : (1 : Int) ≤ c := by omega
  go_enter Try.func36, Try.ntmps36
  go_wp2_with fail
  rw [← hW]
  clear hW hm1 hm2
  go_loopw [7, 8, 17] (fun wd _ i wr => ∃ (k : Nat) (s : WsS), k ≤ c ∧ i = .int .i64 k ∧ wd = .int .i64 s.w ∧ s.w < c ∧ Hid (s.sq.length = k) ∧ Hid (wsRun d c (c - k) s = F) ∧ Hid (BBlk wr w.heap.size (boolsF c s.mt.testBit)) ∧ Hid (Blk wr (w.heap.size + 1) (sqL c s.sq)) ∧ Below w.heap.size w wr) (fun _ _ i _ => c - (intOf i).toNat)
  case atStart => exact ⟨0, ⟨c - 1, 0, [], true⟩, Nat.zero_le _, rfl, by simp; omega, by simp; omega, rfl, HF0, HB0, HQ0, D0⟩
  case round =>
    obtain ⟨k, s, hk, rfl, rfl, hsc, HL, HR, HB, HQ, hE⟩ := hrel
    by_cases hlt : (k : Int) < c
    · have hkc : k < c := by omega
      obtain ⟨n, hn⟩ : ∃ n, c - k = n + 1 := ⟨c - k - 1, by omega⟩
      have hR := HR.out
      rw [hn] at hR
      obtain ⟨J, hJ, j1, j2, j3⟩ := wsRun_next hR HOK.out
      have HM : Hid (∀ j, j < J → s.mt.testBit (s.w * d % c + j) = true) := fun j hj => wsFind_met _ _ _ _ (hJ ▸ hj)
      have hlen := HL.out
      clear hR hJ HR
      obtain ⟨w0, hw0⟩ : ∃ w0, w0 = s.w * d % c := ⟨_, rfl⟩
      rw [← hw0] at j1 j2 j3 HM
      have HW0 : Hid (((s.w : Int) * (d : Int)) % (c : Int) = (w0 : Int)) := by show _ = _; rw [hw0]; simp
      obtain ⟨P, hP⟩ : ∃ P : Int, P = (s.w : Int) * (d : Int) := ⟨_, rfl⟩
      have hpn : s.w * d ≤ 1024 * 10 := Nat.mul_le_mul (by omega) hd
      have p0 : 0 ≤ P := by rw [hP, ← Int.natCast_mul]; omega
      have p1 : P ≤ 10240 := by rw [hP, ← Int.natCast_mul]; omega
      have hwP : IntKind.i64.wrap ((s.w : Int) * (d : Int)) = P := by rw [← hP]; exact IntWalk.i64_in _ ⟨by omega, by omega⟩
      rw [← hP] at HW0
      have hmod : P % (c : Int) = (w0 : Int) := HW0.out
      have htm : P.tmod (c : Int) = (w0 : Int) := by rw [Int.tmod_eq_emod_of_nonneg p0]; exact HW0.out
      have hcn : ¬ (c : Int) = 0 := by omega
      clear hP hpn hw0
      go_wp2_with fail
      have HM0 : Hid (Blk wr (w.heap.size + 1) ((sqL c s.sq).set k ((0 : Nat) : Int))) := by
        show Blk _ _ _
        rw [← HL.out, Int.natCast_zero, sqL_zero (by rw [HL.out]; exact hkc)]
        exact HQ.out
      obtain ⟨wo, rfl⟩ : ∃ wo : World, wo = wr := ⟨_, rfl⟩
      have w00 : (0 : Int) ≤ w0 := by omega
      clear hwP hmod htm HW0 p0 p1 HQ
      go_loopw [7] (fun wd wr => ∃ j : Nat, j ≤ J ∧ wd = .int .i64 ((w0 : Int) + (j : Int)) ∧ Hid (BBlk wr w.heap.size (boolsF c s.mt.testBit)) ∧ Hid (Blk wr (w.heap.size + 1) ((sqL c s.sq).set k (j : Int))) ∧ Below w.heap.size w wr) (fun wd _ => w0 + J - (intOf wd).toNat)
      case atStart => exact ⟨0, Nat.zero_le _, by simp, HB, HM0, hE⟩
      case round =>
        obtain ⟨j, hj, rfl, HBj, HQj, hEj⟩ := hrel
        have hsz : (sqL c s.sq).length = c := sqL_length (by rw [hlen]; omega)
        have hwj : (w0 : Int) + (j : Int) = ((w0 + j : Nat) : Int) := by omega
        have c1 : wr.cell? ⟨w.heap.size, w0 + j, none⟩ = some (.bool (s.mt.testBit (w0 + j))) := by
          rw [HBj.out.cell (i := w0 + j) (by rw [boolsF_length]; omega), eb_boolsF _ _ _ (by omega)]
        have f1 : wr.frozen? ⟨w.heap.size, w0 + j, none⟩ = false := HBj.out.frozen _
        have wc0 : (0 : Int) ≤ (w0 : Int) + (j : Int) := by omega
        have wc1 : (w0 : Int) + (j : Int) < c := by omega
        have wct : ((w0 : Int) + (j : Int)).toNat = w0 + j := by omega
        have hl2 : w.heap.size + 1 < wr.heap.size := HQj.out.lt
        clear hsz hwj
        by_cases hjJ : j < J
        · rw [HM.out j hjJ] at c1
          have c2 : wr.cell? ⟨w.heap.size + 1, k, none⟩ = some (.int .i64 (j : Int)) := by
            rw [HQj.out.cell (i := k) (by rw [List.length_set, sqL_length (by rw [hlen]; omega)]; exact hkc), el_set_self (by rw [sqL_length (by rw [hlen]; omega)]; exact hkc)]
          have f2 : wr.frozen? ⟨w.heap.size + 1, k, none⟩ = false := HQj.out.frozen k
          have HB2 : Hid (BBlk (wr.setCell ⟨w.heap.size + 1, k, none⟩ (.int .i64 ((j : Int) + 1))) w.heap.size (boolsF c s.mt.testBit)) := (Below.heap_setCell wr ⟨w.heap.size + 1, k, none⟩ _ w.heap.size (by simp)).trans HBj.out
          have HQ2 : Hid (Blk (wr.setCell ⟨w.heap.size + 1, k, none⟩ (.int .i64 ((j : Int) + 1))) (w.heap.size + 1) ((sqL c s.sq).set k ((j + 1 : Nat) : Int))) := by
            show Blk _ _ _
            have := HQj.out.set k ((j : Int) + 1)
            rw [List.set_set] at this
            exact this
          have hE2 := hEj.setCell (p := ⟨w.heap.size + 1, k, none⟩) (by simp) (.int .i64 ((j : Int) + 1))
          clear HBj HQj hEj
          have hk0 : (0 : Int) ≤ k := by omega
          have hj0 : (0 : Int) ≤ j := by omega
          go_wp2_with fail
          go_roundw
          case rel => exact ⟨j + 1, by omega, by go_num, HB2, HQ2, hE2⟩
          case measure => simp [intOf]; omega
        · obtain rfl : j = J := by omega
          rw [j2] at c1
          have HB2 : Hid (BBlk (wr.setCell ⟨w.heap.size, w0 + j, none⟩ (.bool true)) w.heap.size (boolsF c (s.mt ||| 1 <<< (w0 + j)).testBit)) := by
            show BBlk _ _ _
            rw [bit_put, ← boolsF_set]
            exact HBj.out.set (w0 + j) true
          have HQ2 : Hid (Blk (wr.setCell ⟨w.heap.size, w0 + j, none⟩ (.bool true)) (w.heap.size + 1) (sqL c (j :: s.sq))) := by
            show Blk _ _ _
            have := HQj.out.other (a := ⟨w.heap.size, w0 + j, none⟩) (by simp) (.bool true)
            rw [← hlen, sqL_set (by rw [hlen]; exact hkc)] at this
            exact this
          have hE2 := hEj.setCell (p := ⟨w.heap.size, w0 + j, none⟩) (Nat.le_refl _) (.bool true)
          have HR2 : Hid (wsRun d c (c - (k + 1)) ⟨w0 + j, s.mt ||| 1 <<< (w0 + j), j :: s.sq, true⟩ = F) := by
            show _ = _
            rw [show c - (k + 1) = n by omega]
            exact j3
          have HL2 : Hid ((j :: s.sq).length = k + 1) := by show _ = _; rw [List.length_cons, hlen]
          have hk0 : (0 : Int) ≤ k := by omega
          clear HBj HQj hEj j3
          go_wp2_with fail
          go_roundw
          case rel => exact ⟨k + 1, ⟨w0 + j, s.mt ||| 1 <<< (w0 + j), j :: s.sq, true⟩, by omega, by go_num, by simp, j1, HL2, HR2, HB2, HQ2, hE2⟩
          case measure => simp [intOf]; omega
    · obtain rfl : k = c := by omega
      have hR := HR.out
      rw [Nat.sub_self] at hR
      have HS : Hid (s = F) := hR
      have hlen := HL.out
      clear hR HR
      go_wp2_with fail
      go_ret
      refine ⟨⟨_, rfl, ?_⟩, hE⟩
      have h := HQ.out
      rw [sqL_all hlen] at h
      have h2 := Own.of_blk (B := w.heap.size) h (by omega) (by rw [nI_length, List.length_reverse, hlen]; unfold maxLen; omega)
      rw [← HS.out]
      rw [nI_length, List.length_reverse, hlen] at h2
      exact h2
end Go.Proofs.Ytaekecccpgcgiaa
