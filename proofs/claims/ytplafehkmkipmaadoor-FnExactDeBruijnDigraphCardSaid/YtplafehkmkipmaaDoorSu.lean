/-
  Lists of lists compared and marked; what marks leave. (A plain seat.)
-/
import Derived.Test.YtplafehkmkipmaaDoorSt
import Derived.Deep.RegionWith
namespace Go.Proofs.YtplafehkmkipmaaDoor
set_option maxRecDepth 100000
open Go.RowKit

theorem eqInts_eq (v1 v2 : Value) (xs : List Int) (w : World) (h1 : Sl w v1 xs) (h2 : Sl w v2 xs) (hx : xs.length ≤ 9223372036854775807) :
    Calls Tryd.prog 24 #[v1, v2] w fun e w' => e = .returned (.bool true) ∧ Below w.heap.size w w' := by
  have := eqInts_any v1 v2 xs xs w h1 h2 hx
  simpa using this

set_option maxHeartbeats 800000 in
theorem eqSS_nil (a1 a2 : Option Addr) (c1 c2 : Nat) (w : World) :
    Calls Tryd.prog 8 #[.slice a1 0 c1, .slice a2 0 c2] w fun e w' => e = .returned (.bool true) ∧ Below w.heap.size w w' := by
  go_enter Tryd.func8, Tryd.ntmps8
  go_wp2
  go_loopw [5] (fun i wr => i = .int .i64 0 ∧ Below w.heap.size w wr) (fun i _ => 0)
  case atStart => exact ⟨rfl, Below.refl _ _⟩
  case round =>
    obtain ⟨rfl, hb⟩ := hrel
    go_wp2
    go_ret
    exact ⟨rfl, hb⟩

set_option maxHeartbeats 1600000 in
theorem eqSS_some (b1 o1 c1 b2 o2 c2 n : Nat) (Ls : List (List Int)) (w : World) (hn : Ls.length = n) (hb1 : b1 < w.heap.size) (hc1 : Rows w b1 o1 Ls) (hb2 : b2 < w.heap.size) (hc2 : Rows w b2 o2 Ls) (hl : n ≤ 9223372036854775807) (hll : ∀ i, i < Ls.length → (elS Ls i).length ≤ 9223372036854775807) :
    Calls Tryd.prog 8 #[.slice (some ⟨b1, o1, none⟩) n c1, .slice (some ⟨b2, o2, none⟩) n c2] w fun e w' => e = .returned (.bool true) ∧ Below w.heap.size w w' := by
  have HC1 := Lib.hid hc1; have HC2 := Lib.hid hc2; have HN := Lib.hid hn; have HLL := Lib.hid hll
  clear hc1 hc2 hn hll
  go_enter Tryd.func8, Tryd.ntmps8
  go_wp2
  go_loopw [5] (fun i wr => ∃ k : Nat, k ≤ n ∧ i = .int .i64 k ∧ Below w.heap.size w wr) (fun i _ => n - (intOf i).toNat)
  case atStart => exact ⟨0, Nat.zero_le _, rfl, Below.refl _ _⟩
  case round =>
    obtain ⟨k, hk, rfl, hb⟩ := hrel
    by_cases hlt : (k : Int) < n
    · have hkl : k < Ls.length := by have := HN.out; omega
      obtain ⟨p1, q1, z1, s1⟩ := HC1.out k hkl
      obtain ⟨p2, q2, z2, s2⟩ := HC2.out k hkl
      have hz1 : wr.cell? ⟨b1, o1 + k, none⟩ = some (.slice p1 (elS Ls k).length q1) := (hb.cell (p := ⟨b1, o1 + k, none⟩) hb1).trans z1
      have hz2 : wr.cell? ⟨b2, o2 + k, none⟩ = some (.slice p2 (elS Ls k).length q2) := (hb.cell (p := ⟨b2, o2 + k, none⟩) hb2).trans z2
      have hk0 : (0 : Int) ≤ k := by omega
      have hbd : Below w.heap.size w wr.drew := hb.drew
      have HCO := Lib.hid (eqInts_eq _ _ (elS Ls k) wr.drew (s1.below hbd) (s2.below hbd) (HLL.out k hkl))
      have HW : Hid (∀ w1, Below wr.drew.heap.size wr.drew w1 → Below w.heap.size w w1) := fun w1 h => hbd.trans (h.mono hbd.size)
      clear z1 z2 s1 s2
      go_wp2_with fail
      go_region_with (go_at_call 24; refine HCO.out.mono ?_; rintro e w1 ⟨rfl, hb1'⟩; have hb3 := HW.out w1 hb1'; clear hb1')
      all_goals go_wp2_with fail
      all_goals go_roundw
      all_goals first | exact ⟨k + 1, by omega, by go_num, hb3⟩ | (simp [intOf]; omega)
    · go_wp2
      go_ret
      exact ⟨rfl, hb⟩

theorem eqSS_same (v1 v2 : Value) (Ls : List (List Int)) (w : World) (h1 : SS w v1 Ls) (h2 : SS w v2 Ls) (hl : Ls.length ≤ 9223372036854775807) (hll : ∀ i, i < Ls.length → (elS Ls i).length ≤ 9223372036854775807) :
    Calls Tryd.prog 8 #[v1, v2] w fun e w' => e = .returned (.bool true) ∧ Below w.heap.size w w' := by
  by_cases h : Ls.length = 0
  · obtain rfl := List.eq_nil_of_length_eq_zero h
    rw [h1.form, h2.form]
    exact eqSS_nil _ _ _ _ w
  · obtain ⟨b1, o1, c1, rfl, hb1, hc1⟩ := h1.rows (by omega)
    obtain ⟨b2, o2, c2, rfl, hb2, hc2⟩ := h2.rows (by omega)
    exact eqSS_some b1 o1 c1 b2 o2 c2 Ls.length Ls w rfl hb1 hc1 hb2 hc2 hl hll

/-- Of what was there, nothing but blocks from lo up to below hi has turned. -/
def Rng (w w' : World) (lo hi : Nat) : Prop := w'.os = w.os ∧ w'.tape = w.tape ∧ w'.output = w.output ∧ w.heap.size ≤ w'.heap.size ∧ ∀ k, k < w.heap.size → (k < lo ∨ hi ≤ k) → w'.heap[k]? = w.heap[k]?
theorem Rng.refl (w : World) (lo hi : Nat) : Rng w w lo hi := ⟨rfl, rfl, rfl, Nat.le_refl _, fun _ _ _ => rfl⟩
theorem Rng.grown {w w1 w2 : World} {lo hi g : Nat} (h : Rng w w1 lo hi) (hg : w1.grownBy w2 (some g)) (h1 : lo ≤ g) (h2 : g < hi) : Rng w w2 lo hi :=
  ⟨hg.os.trans h.1, hg.tape.trans h.2.1, hg.output.trans h.2.2.1, Nat.le_trans h.2.2.2.1 hg.size, fun k hk ho => (hg.block k (Nat.lt_of_lt_of_le hk h.2.2.2.1) (by simp; omega)).trans (h.2.2.2.2 k hk ho)⟩
theorem Rng.block {w w' : World} {lo hi k : Nat} {x : Obj} (h : Rng w w' lo hi) (hx : w.heap[k]? = some x) (ho : k < lo ∨ hi ≤ k) : w'.heap[k]? = some x := (h.2.2.2.2 k (Array.getElem?_eq_some_iff.1 hx).1 ho).trans hx
theorem Below.rng {B lo hi : Nat} {w w1 w2 : World} (h : Below B w w1) (hr : Rng w1 w2 lo hi) (hB : B ≤ lo) (hs : B ≤ w1.heap.size) : Below B w w2 :=
  ⟨hr.1.trans h.os, hr.2.1.trans h.tape, hr.2.2.1.trans h.output, Nat.le_trans h.size hr.2.2.2.1, fun k hk => (hr.2.2.2.2 k (by omega) (.inl (by omega))).trans (h.block k hk)⟩
theorem Own.rng {w w' : World} {B lo hi : Nat} {u : Value} {L : List Int} (h : Own w B u L) (hr : Rng w w' lo hi) (ho : ∀ k, u.ownBlock = some k → k < lo ∨ hi ≤ k) : Own w' B u L := by
  refine ⟨h.1, h.2.imp id fun ⟨g, cap, cur, e, hB, hg, r⟩ => ⟨g, cap, cur, e, hB, hr.block hg (ho g (by rw [e]; rfl)), r⟩⟩

set_option maxHeartbeats 1600000 in
theorem markSS_any (g cap hi : Nat) (us : List Nat) (Ls : List (List Int)) (k : Int) (w : World) (h : CB w g us Ls) (hu : us.length = Ls.length) (hhi : ∀ i, i < us.length → eN us i < hi) (hk0 : 0 ≤ k) (hk1 : k ≤ 1048576) (hl : Ls.length + tot Ls Ls.length ≤ 1048576) :
    Calls Tryd.prog 9 #[.slice (some ⟨g, 0, none⟩) Ls.length cap, .int .i64 k] w fun e w' => e = .returned (.int .i64 (k + (tot Ls Ls.length : Int))) ∧ Rng w w' (g + 1) hi := by
  have HU := Lib.hid hu; have HHI := Lib.hid hhi; have HL := Lib.hid hl; have HCB := Lib.hid h
  have hln : Ls.length ≤ 1048576 := by omega
  clear hu hhi hl h
  go_enter Tryd.func9, Tryd.ntmps9
  go_wp2
  go_loopw [1, 5] (fun kk i wr => ∃ j t : Nat, j ≤ Ls.length ∧ i = .int .i64 j ∧ kk = .int .i64 (k + (t : Int)) ∧ Hid (t = tot Ls j) ∧ t ≤ 1048576 ∧ Hid (Rng w wr (g + 1) hi) ∧ Hid (∀ i, j ≤ i → i < Ls.length → Blk wr (eN us i) (elS Ls i))) (fun _ i _ => Ls.length - (intOf i).toNat)
  case atStart => exact ⟨0, 0, Nat.zero_le _, rfl, by simp, rfl, by omega, Rng.refl _ _ _, fun i _ hi => (HCB.out.2.1 i (by rw [HU.out]; exact hi)).2⟩
  case round =>
    obtain ⟨j, t, hj, rfl, rfl, HT, ht, HR, HBK⟩ := hrel
    by_cases hlt : (j : Int) < Ls.length
    · have hjl : j < Ls.length := by omega
      have hju : j < us.length := by rw [HU.out]; exact hjl
      have hBj := HBK.out j (Nat.le_refl _) hjl
      have hgj := (HCB.out.2.1 j hju).1
      have hts : tot Ls (j + 1) = tot Ls j + (elS Ls j).length := rfl
      have hmo := tot_mono Ls (j + 1) Ls.length (by omega)
      have hllb := HL.out
      have htj := HT.out
      have hcell : wr.cell? ⟨g, j, none⟩ = some (.slice (some ⟨eN us j, 0, none⟩) (elS Ls j).length (elS Ls j).length) := by
        have e1 := HR.out.block HCB.out.1 (.inl (Nat.lt_succ_self g))
        rw [cell_of_row wr g j _ _ _ e1, ptrsA_at us Ls j hjl]
        unfold ptrV
        rw [if_pos hju]
      have hcon := markInts_any _ (eN us j) (elS Ls j) (k + (t : Int)) wr (Own.of_blk hBj (Nat.le_refl _) (by unfold maxLen; omega)) (by omega) (by omega) (by omega)
      have HCON := Lib.hid hcon
      have hj0 : (0 : Int) ≤ j := by omega
      have HT2 : Hid (t + (elS Ls j).length = tot Ls (j + 1)) := by show _ = _; rw [hts, ← htj]
      have ht2 : t + (elS Ls j).length ≤ 1048576 := by omega
      clear hts hmo hllb htj hcon hBj
      go_wp2_with fail
      refine HCON.out.mono ?_
      rintro e w1 ⟨rfl, -, hg1, -⟩
      have hg1' : wr.grownBy w1 (some (eN us j)) := hg1
      have HR2 : Hid (Rng w w1 (g + 1) hi) := HR.out.grown hg1' hgj (HHI.out j hju)
      have HBK2 : Hid (∀ i, j + 1 ≤ i → i < Ls.length → Blk w1 (eN us i) (elS Ls i)) := fun i h1 h2 => by
        have hb := HBK.out i (by omega) h2
        have hne := HCB.out.2.2 j i (by omega) (by rw [HU.out]; exact h2)
        exact (hg1'.block _ hb.lt (by simp; omega)).trans hb
      clear hg1 hg1' HR HBK HCON hcell
      go_wp2_with fail
      go_roundw
      case rel => exact ⟨j + 1, t + (elS Ls j).length, by omega, by go_num, by go_num, HT2, ht2, HR2, HBK2⟩
      case measure => simp [intOf]; omega
    · obtain rfl : j = Ls.length := by omega
      have E := Lib.hid HT.out
      go_wp2
      go_ret
      exact ⟨ret_int (by rw [E.out]), HR.out⟩
end Go.Proofs.YtplafehkmkipmaaDoor
