/-
  Several texts in one: Ma1 Ma2 Ma3 Ma4 Ma5.
-/
import Derived.Test.YtbacocldjcenjaaDoorPz
import Derived.WalkSpells
import Derived.WalkLawsBesides
import Derived.BigQuiet
import Derived.Deep.QuietTactic
import Derived.Deep.RegionHeld3
import Derived.Lib.Hide
import Derived.OwnWalk
import Derived.KernelRfl
import Derived.RangeFuncRecord
namespace Go.Proofs.YtbacocldjcenjaaDoor
set_option maxRecDepth 100000
open Go.RowKit

def arcV (a b c : Int) : Value := .agg #[.int .i64 a, .int .i64 b, .int .i64 c]

set_option maxHeartbeats 400000 in
theorem eqArc_any (a b c a' b' c' : Int) (w : World) :
    Calls Tryd.prog 31 #[.agg #[.int .i64 a, .int .i64 b, .int .i64 c], .agg #[.int .i64 a', .int .i64 b', .int .i64 c']] w fun e w' => e = .returned (.bool (decide (a = a') && (decide (b = b') && decide (c = c')))) ∧ Below w.heap.size w w' := by
  have D0 : Below w.heap.size w ((w.alloc (.cells #[.int .i64 a, .int .i64 b, .int .i64 c] 51)).alloc (.cells #[.int .i64 a', .int .i64 b', .int .i64 c'] 51)) := ((Below.refl _ _).alloc (Nat.le_refl _) _).alloc (by simp) _
  have HD := Lib.hid D0
  clear D0
  by_cases h1 : a = a'
  · by_cases h2 : b = b'
    · by_cases h3 : c = c'
      · subst h1; subst h2; subst h3
        go_enter Tryd.func31, Tryd.ntmps31
        go_wp2
        go_ret
        exact ⟨ret_bool (by simp), HD.out⟩
      · have t3 : (c != c') = true := by simpa using h3
        have H3 := Lib.hid h3
        clear h3
        subst h1; subst h2
        go_enter Tryd.func31, Tryd.ntmps31
        go_wp2
        go_ret
        exact ⟨ret_bool (by simp [H3.out]), HD.out⟩
    · have t3 : (b != b') = true := by simpa using h2
      have H3 := Lib.hid h2
      clear h2
      subst h1
      go_enter Tryd.func31, Tryd.ntmps31
      go_wp2
      go_ret
      exact ⟨ret_bool (by simp [H3.out]), HD.out⟩
  · have t3 : (a != a') = true := by simpa using h1
    have H3 := Lib.hid h1
    clear h1
    go_enter Tryd.func31, Tryd.ntmps31
    go_wp2
    go_ret
    exact ⟨ret_bool (by simp [H3.out]), HD.out⟩

theorem infoArc : (Tryd.prog.info? 51).map (·.size) = some 3 := by kernel_rfl
theorem infoArcL : (Tryd.prog.info? 57).map (·.size) = some 3 := by kernel_rfl

set_option maxHeartbeats 400000 in
theorem toArc_any (a b c : Int) (w : World) :
    Calls Tryd.prog 22 #[.agg #[.int .i64 a, .int .i64 b, .int .i64 c]] w fun e w' => e = .returned (.agg #[.int .i64 a, .int .i64 b, .int .i64 c]) ∧ Below w.heap.size w w' := by
  have D0 : Below w.heap.size w (((w.alloc (.cells #[.int .i64 a, .int .i64 b, .int .i64 c] 57)).alloc (.cells #[.int .i64 a, .int .i64 b, .int .i64 c] 51)).alloc (.cells #[.int .i64 a, .int .i64 b, .int .i64 c] 51)) := (((Below.refl _ _).alloc (Nat.le_refl _) _).alloc (by simp) _).alloc (by simp; omega) _
  have X1 : (((w.alloc (.cells #[.int .i64 a, .int .i64 b, .int .i64 c] 57)).alloc (.cells #[.int .i64 a, .int .i64 b, .int .i64 c] 51)).alloc (.cells #[.int .i64 a, .int .i64 b, .int .i64 c] 51)).heap[w.heap.size + 1]? = some (.cells #[.int .i64 a, .int .i64 b, .int .i64 c] 51 (0, 0)) := heap_old_at (heap_new_at (w.alloc (.cells #[.int .i64 a, .int .i64 b, .int .i64 c] 57)) (.cells #[.int .i64 a, .int .i64 b, .int .i64 c] 51) (w.heap.size + 1) (by simp)) _
  have HD := Lib.hid D0; have HX := Lib.hid X1
  clear D0 X1
  go_enter Tryd.func22, Tryd.ntmps22
  go_wp2
  exact bodyPost_ret (v := .agg #[.int .i64 a, .int .i64 b, .int .i64 c]) (results_cell_row (p := 2) (ty := 51) rfl _ _ (w.heap.size + 1) 51 _ (0, 0) _ rfl HX.out Tryd.underlying51 rfl (by exact infoArc)) rfl ⟨rfl, HD.out⟩

/-- The slice value v of k arcs reads as the numbers fs, three for each. -/
def Sa (w : World) (v : Value) (k : Nat) (fs : List Int) : Prop := fs.length = 3 * k ∧
  ((∃ a c, v = .slice a 0 c ∧ k = 0) ∨ ∃ b off cap, v = .slice (some ⟨b, off, none⟩) k cap ∧ b < w.heap.size ∧ Cells w b off fs)
theorem Sa.below {w w' : World} {v : Value} {k : Nat} {fs : List Int} (h : Sa w v k fs) (hb : Below w.heap.size w w') : Sa w' v k fs := by
  refine ⟨h.1, ?_⟩
  rcases h.2 with h | ⟨b, off, cap, e, hl, hc⟩
  · exact .inl h
  · exact .inr ⟨b, off, cap, e, Nat.lt_of_lt_of_le hl hb.size, hc.below hb hl⟩
theorem Sa.form {w : World} {v : Value} {k : Nat} {fs : List Int} (h : Sa w v k fs) : v = .slice (slPtr v) k (slCap v) := by
  rcases h.2 with ⟨a, c, rfl, rfl⟩ | ⟨b, off, cap, rfl, _, _⟩ <;> rfl

set_option maxHeartbeats 400000 in
theorem szArcs_any (v : Value) (k : Nat) (fs : List Int) (left : Int) (w : World) (hs : Sa w v k fs) (h0 : 0 ≤ left) (h1 : left ≤ 1048576) (hl : k ≤ 9223372036854775807) :
    Calls Tryd.prog 9 #[v, .int .i64 left] w fun e w' => e = .returned (.int .i64 (if left < k then -1 else left - k)) ∧ w = w' := by
  have hf := hs.form
  rw [hf]; clear hf hs
  by_cases hlt : left < k
  · rw [if_pos hlt]
    go_enter Tryd.func9, Tryd.ntmps9
    go_wp2
    go_ret
    exact ⟨rfl, rfl⟩
  · rw [if_neg hlt]
    go_enter Tryd.func9, Tryd.ntmps9
    go_wp2
    go_ret
    exact ⟨rfl, rfl⟩

/-- Block g holds just the numbers of fs, as arcs. -/
def ABlk (w : World) (g : Nat) (zs : List Int) : Prop := w.heap[g]? = some (.cells (intsA zs) 51 (0, 0))
theorem ABlk.lt {w : World} {g : Nat} {zs : List Int} (h : ABlk w g zs) : g < w.heap.size := (Array.getElem?_eq_some_iff.1 h).1
theorem ABlk.cell {w : World} {g : Nat} {zs : List Int} (h : ABlk w g zs) {i : Nat} (hi : i < zs.length) : w.cell? ⟨g, i, none⟩ = some (.int .i64 (el zs i)) := by
  rw [cell_of_row w g i _ _ _ h]; exact intsA_at zs i hi
theorem ABlk.frozen {w : World} {g : Nat} {zs : List Int} (h : ABlk w g zs) (i : Nat) : w.frozen? ⟨g, i, none⟩ = false := frozen_of_row w g i _ _ h
theorem ABlk.new (w : World) (zs : List Int) : ABlk (w.alloc (.cells (intsA zs) 51)) w.heap.size zs := World.alloc_heap_new w _
theorem ABlk.below {B : Nat} {w w' : World} {g : Nat} {zs : List Int} (h : ABlk w g zs) (hb : Below B w w') (hg : g < B) : ABlk w' g zs := (hb.block g hg).trans h
theorem ABlk.belowAll {w w' : World} {g : Nat} {zs : List Int} (h : ABlk w g zs) (hb : Below w.heap.size w w') : ABlk w' g zs := h.below hb h.lt
theorem ABlk.set {w : World} {g : Nat} {zs : List Int} (h : ABlk w g zs) (j : Nat) (n : Int) : ABlk (w.setCell ⟨g, j, none⟩ (.int .i64 n)) g (zs.set j n) := by
  unfold ABlk at *
  rw [heap_setCell_same w g j _ _ _ h]
  congr 2
  unfold intsA
  rw [List.map_set, List.setIfInBounds_toArray]
theorem ABlk.sa {w : World} {g k : Nat} {zs : List Int} (h : ABlk w g zs) (hk : zs.length = 3 * k) (cap : Nat) : Sa w (.slice (some ⟨g, 0, none⟩) k cap) k zs :=
  ⟨hk, .inr ⟨g, 0, cap, rfl, h.lt, fun i hi => by rw [Nat.zero_add]; exact h.cell hi⟩⟩

theorem mk_infoArc : (Tryd.prog.info? 51).map (fun i => (i.zero, i.size, i.bytes)) = some (some (.agg #[.int .i64 0, .int .i64 0, .int .i64 0]), 3, 24) := by kernel_rfl
theorem run_mkArcs (k : Nat) (h : k ≤ 1048576) (w : World) : (Instr.makeSlice 28 (.int .i64 k) (.int .i64 k)).run Tryd.prog w = .ok (.slice (some ⟨w.heap.size, 0, none⟩) k k) (w.alloc (.cells (intsA (List.replicate (3 * k) 0)) 51)) := by
  obtain ⟨i0, hi, hz0, hz1, hz2⟩ := info_parts mk_infoArc
  rw [run_make w 28 51 i0 (.agg #[.int .i64 0, .int .i64 0, .int .i64 0]) Tryd.underlying28 hi hz0 .i64 .i64 k k (by omega) (by omega) (by rw [hz2]; omega) (by omega)]
  simp only [Int.toNat_natCast, hz1]
  congr 2
  unfold intsA madeCells
  congr 1
  apply Array.ext_getElem?
  intro j
  by_cases hj : j < k * 3
  · have h3 : j % 3 = 0 ∨ j % 3 = 1 ∨ j % 3 = 2 := by omega
    have hj2 : j < 3 * k := by omega
    rcases h3 with h3 | h3 | h3 <;> simp [hj, hj2, Value.cells, h3]
  · rw [Array.getElem?_eq_none (by simp; omega), Array.getElem?_eq_none (by simp; omega)]
end Go.Proofs.YtbacocldjcenjaaDoor
namespace Go.Proofs.YtbacocldjcenjaaDoor
set_option maxRecDepth 100000
open Go.RowKit



set_option maxHeartbeats 800000 in
theorem toArcs_some (b off cap k : Nat) (fs : List Int) (w : World) (hbl : b < w.heap.size) (hc : Cells w b off fs) (hk : fs.length = 3 * k) (hl : k ≤ 1048576) :
    Calls Tryd.prog 13 #[.slice (some ⟨b, off, none⟩) k cap] w fun e w' => e = .returned (.slice (some ⟨w.heap.size, 0, none⟩) k k) ∧ ABlk w' w.heap.size fs ∧ Below w.heap.size w w' := by
  have hmk := run_mkArcs k hl
  have HC := Lib.hid hc; clear hc
  have HK := Lib.hid hk; clear hk
  go_enter Tryd.func13, Tryd.ntmps13
  go_wp2
  clear hmk
  go_loopw [4] (fun i wr => ∃ j : Nat, j ≤ k ∧ i = .int .i64 j ∧ Hid (ABlk wr w.heap.size (part fs (j * 3))) ∧ Below w.heap.size w wr) (fun i _ => k - (intOf i).toNat)
  case atStart => exact ⟨0, Nat.zero_le _, rfl, by show ABlk _ _ _; rw [Nat.zero_mul, part_zero, HK.out]; exact ABlk.new w _, (Below.refl _ _).alloc (Nat.le_refl _) _⟩
  case round =>
    obtain ⟨j, hj, rfl, HB, hb⟩ := hrel
    by_cases hlt : (j : Int) < k
    · have hjk : j < k := by omega
      have hj0 : (0 : Int) ≤ j := by omega
      have hkl := HK.out
      have z0 : wr.cell? ⟨b, off + j * 3, none⟩ = some (.int .i64 (el fs (j * 3))) := (hb.cell (p := ⟨b, off + j * 3, none⟩) hbl).trans (HC.out (j * 3) (by omega))
      have z1 : wr.cell? ⟨b, off + j * 3 + 1, none⟩ = some (.int .i64 (el fs (j * 3 + 1))) := (hb.cell (p := ⟨b, off + j * 3 + 1, none⟩) hbl).trans (by rw [Nat.add_assoc]; exact HC.out (j * 3 + 1) (by omega))
      have z2 : wr.cell? ⟨b, off + j * 3 + 2, none⟩ = some (.int .i64 (el fs (j * 3 + 2))) := (hb.cell (p := ⟨b, off + j * 3 + 2, none⟩) hbl).trans (by rw [Nat.add_assoc]; exact HC.out (j * 3 + 2) (by omega))
      go_wp2_with fail
      refine (toArc_any _ _ _ wr).mono ?_
      rintro e w2 ⟨rfl, hb2⟩
      have HB2 := Lib.hid (HB.out.belowAll hb2)
      have hpl := part_length fs (j * 3) (by omega)
      have y0 : w2.cell? ⟨w.heap.size, j * 3, none⟩ = some (.int .i64 (el (part fs (j * 3)) (j * 3))) := HB2.out.cell (by omega)
      have y1 : w2.cell? ⟨w.heap.size, j * 3 + 1, none⟩ = some (.int .i64 (el (part fs (j * 3)) (j * 3 + 1))) := HB2.out.cell (by omega)
      have y2 : w2.cell? ⟨w.heap.size, j * 3 + 2, none⟩ = some (.int .i64 (el (part fs (j * 3)) (j * 3 + 2))) := HB2.out.cell (by omega)
      have f0 : w2.frozen? ⟨w.heap.size, j * 3, none⟩ = false := HB2.out.frozen _
      have f1 : w2.frozen? ⟨w.heap.size, j * 3 + 1, none⟩ = false := HB2.out.frozen _
      have f2 : w2.frozen? ⟨w.heap.size, j * 3 + 2, none⟩ = false := HB2.out.frozen _
      have hwl := hb.size
      have hb3 := hb.trans (hb2.mono hwl)
      have HKL := Lib.hid hkl; have HPL := Lib.hid hpl
      have HS : Hid (ABlk (((w2.setCell ⟨w.heap.size, j * 3, none⟩ (.int .i64 (el fs (j * 3)))).setCell ⟨w.heap.size, j * 3 + 1, none⟩ (.int .i64 (el fs (j * 3 + 1)))).setCell ⟨w.heap.size, j * 3 + 2, none⟩ (.int .i64 (el fs (j * 3 + 2)))) w.heap.size (part fs ((j + 1) * 3))) := by
        show ABlk _ _ _
        have e := ((HB2.out.set (j * 3) (el fs (j * 3))).set (j * 3 + 1) (el fs (j * 3 + 1))).set (j * 3 + 2) (el fs (j * 3 + 2))
        rw [part_succ fs (j * 3) (by omega), part_succ fs (j * 3 + 1) (by omega), part_succ fs (j * 3 + 2) (by omega)] at e
        rw [show (j + 1) * 3 = j * 3 + 2 + 1 by omega]
        exact e
      have hb4 := ((hb3.setCell (p := ⟨w.heap.size, j * 3, none⟩) (Nat.le_refl _) (.int .i64 (el fs (j * 3)))).setCell (p := ⟨w.heap.size, j * 3 + 1, none⟩) (Nat.le_refl _) (.int .i64 (el fs (j * 3 + 1)))).setCell (p := ⟨w.heap.size, j * 3 + 2, none⟩) (Nat.le_refl _) (.int .i64 (el fs (j * 3 + 2)))
      clear HB HB2 hb hb2 hb3 z0 z1 z2 hkl hpl
      go_wp2
      refine ⟨⟨j + 1, by omega, by go_num, HS, hb4⟩, ?_⟩
      simp [intOf]; omega
    · have hjk : j = k := by omega
      subst hjk
      have HF : Hid (ABlk wr w.heap.size fs) := by
        have := HB.out
        rw [show j * 3 = fs.length by rw [HK.out]; omega, part_all] at this
        exact this
      clear HB
      go_wp2
      go_ret
      exact ⟨rfl, HF.out, hb⟩

set_option maxHeartbeats 800000 in
theorem toArcs_nil (a : Option Addr) (c : Nat) (w : World) :
    Calls Tryd.prog 13 #[.slice a 0 c] w fun e w' => e = .returned (.slice (some ⟨w.heap.size, 0, none⟩) 0 0) ∧ ABlk w' w.heap.size [] ∧ Below w.heap.size w w' := by
  have hmk := fun W => run_mkArcs 0 (by omega) W
  simp only [Nat.mul_zero, List.replicate_zero, Int.natCast_zero] at hmk
  go_enter Tryd.func13, Tryd.ntmps13
  go_wp2
  clear hmk
  go_loopw [4] (fun i wr => i = .int .i64 0 ∧ ABlk wr w.heap.size [] ∧ Below w.heap.size w wr) (fun i _ => 0)
  case atStart => exact ⟨rfl, ABlk.new w _, (Below.refl _ _).alloc (Nat.le_refl _) _⟩
  case round =>
    obtain ⟨rfl, hB, hb⟩ := hrel
    have HB := Lib.hid hB; clear hB
    go_wp2
    go_ret
    exact ⟨rfl, HB.out, hb⟩

theorem toArcs_any (v : Value) (k : Nat) (fs : List Int) (w : World) (hs : Sa w v k fs) (hl : k ≤ 1048576) :
    Calls Tryd.prog 13 #[v] w fun e w' => e = .returned (.slice (some ⟨w.heap.size, 0, none⟩) k k) ∧ ABlk w' w.heap.size fs ∧ Below w.heap.size w w' := by
  rcases hs with ⟨hk, ⟨a, c, rfl, rfl⟩ | ⟨b, off, cap, rfl, hbl, hc⟩⟩
  · obtain rfl : fs = [] := List.eq_nil_of_length_eq_zero (by omega)
    exact toArcs_nil a c w
  · exact toArcs_some b off cap k fs w hbl hc hk hl

set_option maxHeartbeats 800000 in
theorem eqArcs_zero (v1 v2 : Value) (fs : List Int) (w : World) (h1 : Sa w v1 0 fs) (h2 : Sa w v2 0 fs) :
    Calls Tryd.prog 16 #[v1, v2] w fun e w' => e = .returned (.bool true) ∧ Below w.heap.size w w' := by
  have f1 := h1.form
  have f2 := h2.form
  rw [f1, f2]; clear f1 f2 h1 h2
  go_enter Tryd.func16, Tryd.ntmps16
  go_wp2
  go_loopw [5] (fun i wr => i = .int .i64 0 ∧ Below w.heap.size w wr) (fun i _ => 0)
  case atStart => exact ⟨rfl, Below.refl _ _⟩
  case round =>
    obtain ⟨rfl, hb⟩ := hrel
    go_wp2
    go_ret
    exact ⟨rfl, hb⟩

theorem below_drew {B B' : Nat} {w w' : World} (h : Below B' w.drew w') (hB : B ≤ B') : Below B w w' := ((Below.refl B w).drew).trans (h.mono hB)

set_option maxHeartbeats 1600000 in
theorem eqArcs_some (b1 o1 c1 b2 o2 c2 k : Nat) (fs : List Int) (w : World) (hk : fs.length = 3 * k) (hb1 : b1 < w.heap.size) (hc1 : Cells w b1 o1 fs) (hb2 : b2 < w.heap.size) (hc2 : Cells w b2 o2 fs) (hl : k ≤ 9223372036854775807) :
    Calls Tryd.prog 16 #[.slice (some ⟨b1, o1, none⟩) k c1, .slice (some ⟨b2, o2, none⟩) k c2] w fun e w' => e = .returned (.bool true) ∧ Below w.heap.size w w' := by
  have HC1 := Lib.hid hc1; clear hc1
  have HC2 := Lib.hid hc2; clear hc2
  have HK := Lib.hid hk; clear hk
  go_enter Tryd.func16, Tryd.ntmps16
  go_wp2
  go_loopw [5] (fun i wr => ∃ j : Nat, j ≤ k ∧ i = .int .i64 j ∧ Below w.heap.size w wr) (fun i _ => k - (intOf i).toNat)
  case atStart => exact ⟨0, Nat.zero_le _, rfl, Below.refl _ _⟩
  case round =>
    obtain ⟨j, hj, rfl, hb⟩ := hrel
    by_cases hlt : (j : Int) < k
    · have hj0 : (0 : Int) ≤ j := by omega
      have hkl := HK.out
      have HZ : Hid (∀ W, Below w.heap.size w W → (W.cell? ⟨b1, o1 + j * 3, none⟩ = some (.int .i64 (el fs (j * 3))) ∧ W.cell? ⟨b1, o1 + j * 3 + 1, none⟩ = some (.int .i64 (el fs (j * 3 + 1))) ∧ W.cell? ⟨b1, o1 + j * 3 + 2, none⟩ = some (.int .i64 (el fs (j * 3 + 2)))) ∧ (W.cell? ⟨b2, o2 + j * 3, none⟩ = some (.int .i64 (el fs (j * 3))) ∧ W.cell? ⟨b2, o2 + j * 3 + 1, none⟩ = some (.int .i64 (el fs (j * 3 + 1))) ∧ W.cell? ⟨b2, o2 + j * 3 + 2, none⟩ = some (.int .i64 (el fs (j * 3 + 2))))) := fun W hW =>
        ⟨⟨(hW.cell (p := ⟨b1, o1 + j * 3, none⟩) hb1).trans (HC1.out (j * 3) (by omega)), (hW.cell (p := ⟨b1, o1 + j * 3 + 1, none⟩) hb1).trans (by rw [Nat.add_assoc]; exact HC1.out (j * 3 + 1) (by omega)), (hW.cell (p := ⟨b1, o1 + j * 3 + 2, none⟩) hb1).trans (by rw [Nat.add_assoc]; exact HC1.out (j * 3 + 2) (by omega))⟩,
         ⟨(hW.cell (p := ⟨b2, o2 + j * 3, none⟩) hb2).trans (HC2.out (j * 3) (by omega)), (hW.cell (p := ⟨b2, o2 + j * 3 + 1, none⟩) hb2).trans (by rw [Nat.add_assoc]; exact HC2.out (j * 3 + 1) (by omega)), (hW.cell (p := ⟨b2, o2 + j * 3 + 2, none⟩) hb2).trans (by rw [Nat.add_assoc]; exact HC2.out (j * 3 + 2) (by omega))⟩⟩
      obtain ⟨⟨z0, z1, z2⟩, y0, y1, y2⟩ := HZ.out wr hb
      have hwl := hb.size
      have HEQ : Hid (∀ (W : World), Calls Tryd.prog 31 #[.agg #[.int .i64 (el fs (j * 3)), .int .i64 (el fs (j * 3 + 1)), .int .i64 (el fs (j * 3 + 2))], .agg #[.int .i64 (el fs (j * 3)), .int .i64 (el fs (j * 3 + 1)), .int .i64 (el fs (j * 3 + 2))]] W fun e w' => e = .returned (.bool true) ∧ Below W.heap.size W w') := fun W => by
        have := eqArc_any (el fs (j * 3)) (el fs (j * 3 + 1)) (el fs (j * 3 + 2)) (el fs (j * 3)) (el fs (j * 3 + 1)) (el fs (j * 3 + 2)) W
        simpa using this
      clear hkl
      go_wp2_with fail
      go_region_held3 (fun w' => w'.cell? ⟨b1, o1 + j * 3, none⟩ = some (.int .i64 (el fs (j * 3))) ∧ w'.cell? ⟨b1, o1 + j * 3 + 1, none⟩ = some (.int .i64 (el fs (j * 3 + 1))) ∧ w'.cell? ⟨b1, o1 + j * 3 + 2, none⟩ = some (.int .i64 (el fs (j * 3 + 2))) ∧ w'.cell? ⟨b2, o2 + j * 3, none⟩ = some (.int .i64 (el fs (j * 3))) ∧ w'.cell? ⟨b2, o2 + j * 3 + 1, none⟩ = some (.int .i64 (el fs (j * 3 + 1))) ∧ w'.cell? ⟨b2, o2 + j * 3 + 2, none⟩ = some (.int .i64 (el fs (j * 3 + 2))))
        (go_keep)
        (first | (go_at_call 31; refine (HEQ.out _).mono ?_; rintro e w5 ⟨rfl, hb5⟩; have hb6 : Below wr.heap.size wr w5 := below_drew hb5 (by simp); obtain ⟨⟨z0, z1, z2⟩, y0, y1, y2⟩ := HZ.out w5 (hb.trans (hb6.mono hwl))))
      have hb7 := hb.trans (hb6.mono hwl)
      clear hb5 hb6 z0 z1 z2 y0 y1 y2
      go_wp2
      go_roundw
      case rel => exact ⟨j + 1, by omega, by go_num, hb7⟩
      case measure => simp [intOf]; omega
    · have hjk : j = k := by omega
      subst hjk
      go_wp2
      go_ret
      exact ⟨rfl, hb⟩

theorem eqArcs_same (v1 v2 : Value) (k : Nat) (fs : List Int) (w : World) (h1 : Sa w v1 k fs) (h2 : Sa w v2 k fs) (hl : k ≤ 9223372036854775807) :
    Calls Tryd.prog 16 #[v1, v2] w fun e w' => e = .returned (.bool true) ∧ Below w.heap.size w w' := by
  by_cases h0 : k = 0
  · subst h0; exact eqArcs_zero v1 v2 fs w h1 h2
  · rcases h1 with ⟨hk, ⟨_, _, _, e⟩ | ⟨b1, o1, c1, rfl, hb1, hc1⟩⟩
    · exact absurd e h0
    · rcases h2 with ⟨_, ⟨_, _, _, e⟩ | ⟨b2, o2, c2, rfl, hb2, hc2⟩⟩
      · exact absurd e h0
      · exact eqArcs_some b1 o1 c1 b2 o2 c2 k fs w hk hb1 hc1 hb2 hc2 hl
end Go.Proofs.YtbacocldjcenjaaDoor
namespace Go.Proofs.YtbacocldjcenjaaDoor
set_option maxRecDepth 100000
open Go.RowKit

theorem three_set {w : World} {k : Nat} {x y z a b c : Value} {t : TypeId} (h : w.heap[k]? = some (.cells #[x, y, z] t (0, 0))) : (((w.setCell ⟨k, 0, none⟩ a).setCell ⟨k, 1, none⟩ b).setCell ⟨k, 2, none⟩ c).heap[k]? = some (.cells #[a, b, c] t (0, 0)) := by
  have h1 := heap_setCell_same w k 0 _ _ a h
  have h2 := heap_setCell_same _ k 1 _ _ b h1
  exact heap_setCell_same _ k 2 _ _ c h2
theorem infoBase : (Tryd.prog.info? 30).map (·.size) = some 3 := by kernel_rfl
theorem three_cells {w : World} {k : Nat} {x y z : Value} {t : TypeId} (h : w.heap[k]? = some (.cells #[x, y, z] t (0, 0))) : (w.cell? ⟨k, 0, none⟩ = some x ∧ w.cell? ⟨k, 1, none⟩ = some y ∧ w.cell? ⟨k, 2, none⟩ = some z) ∧ w.frozen? ⟨k, 0, none⟩ = false ∧ w.frozen? ⟨k, 1, none⟩ = false ∧ w.frozen? ⟨k, 2, none⟩ = false :=
  ⟨⟨by rw [cell_of_row w k 0 _ _ _ h]; rfl, by rw [cell_of_row w k 1 _ _ _ h]; rfl, by rw [cell_of_row w k 2 _ _ _ h]; rfl⟩, frozen_of_row w k 0 _ _ h, frozen_of_row w k 1 _ _ h, frozen_of_row w k 2 _ _ h⟩
theorem ABlk.other {w : World} {g : Nat} {zs : List Int} (h : ABlk w g zs) {a : Addr} (ha : g ≠ a.block) (v : Value) : ABlk (w.setCell a v) g zs := (Below.heap_setCell w a v g ha).trans h

set_option maxHeartbeats 800000 in
theorem szBase_any (n m : Int) (v : Value) (k : Nat) (fs : List Int) (left : Int) (w : World) (hs : Sa w v k fs) (h0 : 0 ≤ left) (h1 : left ≤ 1048576) (hl : k ≤ 9223372036854775807) :
    Calls Tryd.prog 4 #[.agg #[.int .i64 n, .int .i64 m, v], .int .i64 left] w fun e w' => e = .returned (.int .i64 (if left < k then -1 else left - k)) ∧ Below w.heap.size w w' := by
  have HS := Lib.hid hs; clear hs
  have hb1 : Below w.heap.size w (w.alloc (.cells #[.int .i64 n, .int .i64 m, v] 24)) := (Below.refl _ _).alloc (Nat.le_refl _) _
  have hc := szArcs_any v k fs left (w.alloc (.cells #[.int .i64 n, .int .i64 m, v] 24)) (HS.out.below hb1) h0 h1 hl
  by_cases hlt : left < k
  · have hi : (if left < (k : Int) then (-1 : Int) else left - k) = -1 := if_pos hlt
    rw [hi] at hc ⊢
    clear hi
    go_enter Tryd.func4, Tryd.ntmps4
    go_wp2_with (go_at_call 9; refine hc.mono ?_; rintro e w' ⟨rfl, rfl⟩)
    go_ret
    exact ⟨rfl, (Below.refl _ _).alloc (Nat.le_refl _) _⟩
  · have hi : (if left < (k : Int) then (-1 : Int) else left - k) = left - k := if_neg hlt
    rw [hi] at hc ⊢
    clear hi
    go_enter Tryd.func4, Tryd.ntmps4
    go_wp2_with (go_at_call 9; refine hc.mono ?_; rintro e w' ⟨rfl, rfl⟩)
    go_ret
    exact ⟨rfl, (Below.refl _ _).alloc (Nat.le_refl _) _⟩

set_option maxHeartbeats 800000 in
theorem toBase_any (n m : Int) (v : Value) (k : Nat) (fs : List Int) (w : World) (hs : Sa w v k fs) (hl : k ≤ 1048576) :
    Calls Tryd.prog 6 #[.agg #[.int .i64 n, .int .i64 m, v]] w fun e w' => e = .returned (.agg #[.int .i64 n, .int .i64 m, .slice (some ⟨w.heap.size + 3, 0, none⟩) k k]) ∧ ABlk w' (w.heap.size + 3) fs ∧ Below w.heap.size w w' := by
  have HS := Lib.hid hs; clear hs
  go_enter Tryd.func6, Tryd.ntmps6
  have hb3 : Below w.heap.size w (((w.alloc (.cells #[.int .i64 n, .int .i64 m, v] 24)).alloc (.cells #[.int .i64 0, .int .i64 0, .slice none 0 0] 30)).alloc (.cells #[.int .i64 n, .int .i64 m, .slice none 0 0] 30)) := (((Below.refl _ _).alloc (Nat.le_refl _) _).alloc (by simp) _).alloc (by simp; omega) _
  have hcon := toArcs_any v k fs _ (HS.out.below hb3) hl
  simp only [World.size_alloc] at hcon
  have HH2 := Lib.hid (heap_new_at ((w.alloc (.cells #[.int .i64 n, .int .i64 m, v] 24)).alloc (.cells #[.int .i64 0, .int .i64 0, .slice none 0 0] 30)) (.cells #[.int .i64 n, .int .i64 m, .slice none 0 0] 30) (w.heap.size + 1 + 1) (by simp))
  have HH1 := Lib.hid (heap_old_at (heap_new_at (w.alloc (.cells #[.int .i64 n, .int .i64 m, v] 24)) (.cells #[.int .i64 0, .int .i64 0, .slice none 0 0] 30) (w.heap.size + 1) (by simp)) (.cells #[.int .i64 n, .int .i64 m, .slice none 0 0] 30))
  go_wp2_with (go_at_call 13; go_must (refine hcon.mono ?_; rintro e w1 ⟨rfl, hB1, hb1⟩; have HB1 := Lib.hid hB1; obtain ⟨⟨a0, a1, a2⟩, fa0, fa1, fa2⟩ := three_cells ((hb1.block (w.heap.size + 1 + 1) (by omega)).trans HH2.out); obtain ⟨⟨r0, r1, r2⟩, g0, g1, g2⟩ := three_cells ((hb1.block (w.heap.size + 1) (by omega)).trans HH1.out); have RB := Lib.hid ((hb1.block (w.heap.size + 1) (by omega)).trans HH1.out); have hz := hB1.lt; have hb1' := hb3.trans (hb1.mono (by omega)); clear hB1))
  have hfin := three_set (a := .int .i64 n) (b := .int .i64 m) (c := .slice (some ⟨w.heap.size + 1 + 1 + 1, 0, none⟩) k k) ((Below.heap_setCell w1 ⟨w.heap.size + 1 + 1, 2, none⟩ (.slice (some ⟨w.heap.size + 1 + 1 + 1, 0, none⟩) k k) (w.heap.size + 1) (by simp)).trans RB.out)
  refine bodyPost_ret (v := .agg #[.int .i64 n, .int .i64 m, .slice (some ⟨w.heap.size + 3, 0, none⟩) k k]) (results_cell_row (p := 2) (ty := 30) rfl _ _ (w.heap.size + 1) 30 _ (0, 0) _ rfl hfin Tryd.underlying30 rfl (by exact infoBase)) rfl ⟨rfl, ?_, ?_⟩
  · exact (((HB1.out.other (by simp) _).other (by simp; omega) _).other (by simp; omega) _).other (by simp; omega) _
  · exact (((hb1'.setCell (p := ⟨w.heap.size + 1 + 1, 2, none⟩) (by simp; omega) _).setCell (p := ⟨w.heap.size + 1, 0, none⟩) (by simp) _).setCell (p := ⟨w.heap.size + 1, 1, none⟩) (by simp) _).setCell (p := ⟨w.heap.size + 1, 2, none⟩) (by simp) _

set_option maxHeartbeats 800000 in
theorem eqBase_same (n m : Int) (v1 v2 : Value) (k : Nat) (fs : List Int) (w : World) (h1 : Sa w v1 k fs) (h2 : Sa w v2 k fs) (hx : k ≤ 9223372036854775807) :
    Calls Tryd.prog 8 #[.agg #[.int .i64 n, .int .i64 m, v1], .agg #[.int .i64 n, .int .i64 m, v2]] w fun e w' => e = .returned (.bool true) ∧ Below w.heap.size w w' := by
  have hb2 : Below w.heap.size w ((w.alloc (.cells #[.int .i64 n, .int .i64 m, v1] 30)).alloc (.cells #[.int .i64 n, .int .i64 m, v2] 30)) := ((Below.refl _ _).alloc (Nat.le_refl _) _).alloc (by simp) _
  have hc := eqArcs_same v1 v2 k fs _ (h1.below hb2) (h2.below hb2) hx
  have hn1 : (n != n) = false := by simp
  have hn2 : (m != m) = false := by simp
  clear h1 h2
  go_enter Tryd.func8, Tryd.ntmps8
  go_wp2_with (go_at_call 16; refine hc.mono ?_; rintro e w1 ⟨rfl, hb1⟩)
  go_ret
  exact ⟨rfl, hb2.trans (hb1.mono (by simp; omega))⟩
end Go.Proofs.YtbacocldjcenjaaDoor
namespace Go.Proofs.YtbacocldjcenjaaDoor
set_option maxRecDepth 100000
open Go.RowKit

/-- The first j arcs lead between numbers below n and have voltages below m. -/
def arcsOk (n m : Int) (fs : List Int) (j : Nat) : Bool := (List.range j).all fun i => (decide (0 ≤ el fs (i * 3)) && decide (el fs (i * 3) < n)) && ((decide (0 ≤ el fs (i * 3 + 1)) && decide (el fs (i * 3 + 1) < n)) && (decide (0 ≤ el fs (i * 3 + 2)) && decide (el fs (i * 3 + 2) < m)))
theorem arcsOk_succ (n m : Int) (fs : List Int) (j : Nat) : arcsOk n m fs (j + 1) = (arcsOk n m fs j && ((decide (0 ≤ el fs (j * 3)) && decide (el fs (j * 3) < n)) && ((decide (0 ≤ el fs (j * 3 + 1)) && decide (el fs (j * 3 + 1) < n)) && (decide (0 ≤ el fs (j * 3 + 2)) && decide (el fs (j * 3 + 2) < m))))) := by
  unfold arcsOk; rw [List.range_succ, List.all_append]; simp
theorem arcsOk_no {n m : Int} {fs : List Int} {j k : Nat} (hj : j < k) (h : ((decide (0 ≤ el fs (j * 3)) && decide (el fs (j * 3) < n)) && ((decide (0 ≤ el fs (j * 3 + 1)) && decide (el fs (j * 3 + 1) < n)) && (decide (0 ≤ el fs (j * 3 + 2)) && decide (el fs (j * 3 + 2) < m)))) = false) : arcsOk n m fs k = false := by
  cases hk : arcsOk n m fs k with
  | false => rfl
  | true =>
    unfold arcsOk at hk
    rw [List.all_eq_true] at hk
    have := hk j (List.mem_range.2 hj)
    rw [h] at this; cases this
/-- A base: a size, a modulus, k arcs with the numbers fs. -/
def isB (n m : Int) (k : Nat) (fs : List Int) : Bool := decide (1 ≤ n ∧ n ≤ 10 ∧ 1 ≤ m ∧ m ≤ 62 ∧ n * m ≤ 62 ∧ k ≤ 16) && arcsOk n m fs k

theorem in_val (a b c : Int) (w : World) (r : Bool) (h : (decide (b ≤ a) && decide (a ≤ c)) = r) :
    Calls Tryd.prog 17 #[.int .i64 a, .int .i64 b, .int .i64 c] w fun e w' => e = .returned (.bool r) ∧ w = w' := h ▸ in_any a b c w

set_option maxHeartbeats 400000 in
theorem isVertex_anyM (n x : Int) (w : World) :
    Calls Tryd.prog 33 #[.int .i64 n, .int .i64 x] w fun e w' => e = .returned (.bool (decide (0 ≤ x) && decide (x < n))) ∧ w = w' := by
  by_cases h : 0 ≤ x
  · have h' : decide (0 ≤ x) = true := by simpa using h
    have h2 : (decide (0 ≤ x) && decide (x < n)) = decide (x < n) := by rw [h']; rfl
    rw [h2]; clear h2
    go_enter Tryd.func33, Tryd.ntmps33
    go_wp2
    go_ret
    exact ⟨rfl, rfl⟩
  · have h' : decide (0 ≤ x) = false := by simpa using h
    have h2 : (decide (0 ≤ x) && decide (x < n)) = false := by rw [h']; rfl
    rw [h2]; clear h2
    go_enter Tryd.func33, Tryd.ntmps33
    go_wp2
    go_ret
    exact ⟨rfl, rfl⟩
theorem vertex_val (n x : Int) (w : World) (r : Bool) (h : (decide (0 ≤ x) && decide (x < n)) = r) :
    Calls Tryd.prog 33 #[.int .i64 n, .int .i64 x] w fun e w' => e = .returned (.bool r) ∧ w = w' := h ▸ isVertex_anyM n x w

set_option maxHeartbeats 400000 in
theorem isRest_any (n x : Int) (w : World) :
    Calls Tryd.prog 34 #[.int .i64 n, .int .i64 x] w fun e w' => e = .returned (.bool (decide (0 ≤ x) && decide (x < n))) ∧ w = w' := by
  by_cases h : 0 ≤ x
  · have h' : decide (0 ≤ x) = true := by simpa using h
    have h2 : (decide (0 ≤ x) && decide (x < n)) = decide (x < n) := by rw [h']; rfl
    rw [h2]; clear h2
    go_enter Tryd.func34, Tryd.ntmps34
    go_wp2
    go_ret
    exact ⟨rfl, rfl⟩
  · have h' : decide (0 ≤ x) = false := by simpa using h
    have h2 : (decide (0 ≤ x) && decide (x < n)) = false := by rw [h']; rfl
    rw [h2]; clear h2
    go_enter Tryd.func34, Tryd.ntmps34
    go_wp2
    go_ret
    exact ⟨rfl, rfl⟩
theorem rest_val (n x : Int) (w : World) (r : Bool) (h : (decide (0 ≤ x) && decide (x < n)) = r) :
    Calls Tryd.prog 34 #[.int .i64 n, .int .i64 x] w fun e w' => e = .returned (.bool r) ∧ w = w' := h ▸ isRest_any n x w

set_option maxRecDepth 100000 in
set_option maxHeartbeats 3200000 in
theorem l03Is_any (n m : Int) (v : Value) (k : Nat) (fs : List Int) (w : World) (hs : Sa w v k fs) (hl : k ≤ 9223372036854775807) :
    Calls Tryd.prog 10 #[.agg #[.int .i64 n, .int .i64 m, v]] w fun e w' => e = .returned (.bool (isB n m k fs)) ∧ Below w.heap.size w w' := by
  obtain ⟨a, c, rfl⟩ : ∃ a c, v = .slice a k c := ⟨_, _, hs.form⟩
  have D0 : Below w.heap.size w (w.alloc (.cells #[.int .i64 n, .int .i64 m, .slice a k c] 30)) := (Below.refl _ _).alloc (Nat.le_refl _) _
  have HD := Lib.hid D0
  by_cases c1 : 1 ≤ n ∧ n ≤ 10
  · obtain ⟨n0, n1⟩ := c1
    by_cases c2 : 1 ≤ m ∧ m ≤ 62
    · obtain ⟨m0, m1⟩ := c2
      have hp0 : 0 ≤ n * m := Int.mul_nonneg (by omega) (by omega)
      have hp1 : n * m ≤ 620 := by
        have := Int.mul_le_mul n1 m1 (by omega) (by omega : (0 : Int) ≤ 10)
        omega
      obtain ⟨p, hp⟩ : ∃ p, p = n * m := ⟨_, rfl⟩
      have hw : IntKind.i64.wrap (n * m) = n * m := IntWalk.i64_in _ ⟨by omega, by omega⟩
      have hn1 : ∀ W, Calls Tryd.prog 17 #[.int .i64 n, .int .i64 1, .int .i64 10] W fun e w' => e = .returned (.bool true) ∧ W = w' := fun W => in_val n 1 10 W true (by simp; omega)
      have hm1 : ∀ W, Calls Tryd.prog 17 #[.int .i64 m, .int .i64 1, .int .i64 62] W fun e w' => e = .returned (.bool true) ∧ W = w' := fun W => in_val m 1 62 W true (by simp; omega)
      by_cases c3 : n * m ≤ 62
      · by_cases c4 : k ≤ 16
        · have k4 : (k : Int) ≤ 16 := by omega
          have HB : Hid (isB n m k fs = arcsOk n m fs k) := by show isB _ _ _ _ = _; unfold isB; rw [decide_eq_true (show 1 ≤ n ∧ n ≤ 10 ∧ 1 ≤ m ∧ m ≤ 62 ∧ n * m ≤ 62 ∧ k ≤ 16 from ⟨n0, n1, m0, m1, c3, c4⟩)]; rfl
          by_cases k0 : k = 0
          · subst k0
            have HR : Hid (isB n m 0 fs = true) := by show _ = _; rw [HB.out]; rfl
            clear hs D0 HB hp hp0 hp1
            go_enter Tryd.func10, Tryd.ntmps10
            go_wp2_with (first | (go_at_call 17; first | (with_reducible refine (hn1 _).mono ?_; rintro e w3 ⟨rfl, rfl⟩) | (with_reducible refine (hm1 _).mono ?_; rintro e w3 ⟨rfl, rfl⟩)))
            go_loopw [3] (fun i wr => i = .int .i64 0 ∧ wr = w.alloc (.cells #[.int .i64 n, .int .i64 m, .slice a 0 c] 30)) (fun i _ => 0)
            case atStart => exact ⟨rfl, rfl⟩
            case round =>
              obtain ⟨rfl, rfl⟩ := hrel
              go_wp2
              go_ret
              exact ⟨ret_bool HR.out.symm, HD.out⟩
          · obtain ⟨hk3, ⟨_, _, _, e⟩ | ⟨b, off, cap, e, hb, hc⟩⟩ := hs
            · exact absurd e k0
            obtain ⟨rfl, rfl⟩ : a = some ⟨b, off, none⟩ ∧ c = cap := by cases e; exact ⟨rfl, rfl⟩
            have HC := Lib.hid hc; have HK := Lib.hid hk3
            have X0 := Lib.hid (World.alloc_heap_new w (.cells #[.int .i64 n, .int .i64 m, .slice (some ⟨b, off, none⟩) k c] 30))
            clear hc hk3 D0 hp hp0 hp1 e
            go_enter Tryd.func10, Tryd.ntmps10
            go_wp2_with (first | (go_at_call 17; first | (with_reducible refine (hn1 _).mono ?_; rintro e w3 ⟨rfl, rfl⟩) | (with_reducible refine (hm1 _).mono ?_; rintro e w3 ⟨rfl, rfl⟩)))
            go_loopw [3] (fun i wr => ∃ j : Nat, j ≤ k ∧ i = .int .i64 j ∧ Hid (arcsOk n m fs j = true) ∧ Below (w.heap.size + 1) (w.alloc (.cells #[.int .i64 n, .int .i64 m, .slice (some ⟨b, off, none⟩) k c] 30)) wr) (fun i _ => k - (intOf i).toNat)
            case atStart => exact ⟨0, Nat.zero_le _, rfl, rfl, Below.refl _ _⟩
            case round =>
              obtain ⟨j, hj, rfl, HO, hB⟩ := hrel
              have hsz : w.heap.size + 1 ≤ wr.heap.size := by have := hB.size; simpa using this
              have hlt1 : w.heap.size < wr.heap.size := by omega
              have hne1 : ¬ w.heap.size = wr.heap.size := by omega
              have hne2 : ¬ wr.heap.size = w.heap.size := by omega
              obtain ⟨⟨q0, q1, q2⟩, -, -, -⟩ := three_cells ((hB.block w.heap.size (by omega)).trans X0.out)
              by_cases hlt : (j : Int) < k
              · have hj0 : (0 : Int) ≤ j := by omega
                have hkl := HK.out
                have hbc : ∀ i, i < fs.length → wr.cell? ⟨b, off + i, none⟩ = some (.int .i64 (el fs i)) := fun i hi => ((HD.out.trans (hB.mono (by simp))).cell (p := ⟨b, off + i, none⟩) hb).trans (HC.out i hi)
                have z0 := hbc (j * 3) (by omega)
                have z1 := hbc (j * 3 + 1) (by omega)
                have z2 := hbc (j * 3 + 2) (by omega)
                rw [← Nat.add_assoc] at z1 z2
                obtain ⟨fa, hfa⟩ : ∃ x, x = el fs (j * 3) := ⟨_, rfl⟩
                obtain ⟨fb, hfb⟩ : ∃ x, x = el fs (j * 3 + 1) := ⟨_, rfl⟩
                obtain ⟨fc, hfc⟩ : ∃ x, x = el fs (j * 3 + 2) := ⟨_, rfl⟩
                rw [← hfa] at z0; rw [← hfb] at z1; rw [← hfc] at z2
                have HN : Hid (arcsOk n m fs (j + 1) = (arcsOk n m fs j && ((decide (0 ≤ fa) && decide (fa < n)) && ((decide (0 ≤ fb) && decide (fb < n)) && (decide (0 ≤ fc) && decide (fc < m)))))) := by
                  show arcsOk _ _ _ _ = _; rw [arcsOk_succ, hfa, hfb, hfc]
                have HNO : Hid (((decide (0 ≤ fa) && decide (fa < n)) && ((decide (0 ≤ fb) && decide (fb < n)) && (decide (0 ≤ fc) && decide (fc < m)))) = false → isB n m k fs = false) := fun h => by
                  rw [HB.out]
                  exact arcsOk_no (by omega : j < k) (by rw [hfa, hfb, hfc] at h; exact h)
                have Q0 := hB.alloc hsz (.cells #[.int .i64 fa, .int .i64 fb, .int .i64 fc] 51)
                have HQ := Lib.hid Q0
                clear hkl hbc hfa hfb hfc Q0
                by_cases g1 : 0 ≤ fa ∧ fa < n
                · by_cases g2 : 0 ≤ fb ∧ fb < n
                  · by_cases g3 : 0 ≤ fc ∧ fc < m
                    · have HO2 : Hid (arcsOk n m fs (j + 1) = true) := by show _ = _; rw [HN.out, HO.out]; simp [g1, g2, g3]
                      have hw1 : IntKind.i64.wrap (n - 1) = n - 1 := IntWalk.i64_in _ ⟨by omega, by omega⟩; have hw2 : IntKind.i64.wrap (m - 1) = m - 1 := IntWalk.i64_in _ ⟨by omega, by omega⟩; have hfa : ∀ W, Calls Tryd.prog 17 #[.int .i64 fa, .int .i64 0, .int .i64 (n - 1)] W fun e w' => e = .returned (.bool true) ∧ W = w' := fun W => (in_val fa 0 (n - 1) W true (by simp; omega)); have hfb : ∀ W, Calls Tryd.prog 17 #[.int .i64 fb, .int .i64 0, .int .i64 (n - 1)] W fun e w' => e = .returned (.bool true) ∧ W = w' := fun W => (in_val fb 0 (n - 1) W true (by simp; omega)); have hfc : ∀ W, Calls Tryd.prog 17 #[.int .i64 fc, .int .i64 0, .int .i64 (m - 1)] W fun e w' => e = .returned (.bool true) ∧ W = w' := fun W => (in_val fc 0 (m - 1) W true (by simp; omega)); go_wp2_with (first | (go_at_call 17; with_reducible refine (hfa _).mono ?_; rintro e w3 ⟨rfl, rfl⟩) | (go_at_call 17; with_reducible refine (hfb _).mono ?_; rintro e w3 ⟨rfl, rfl⟩) | (go_at_call 17; with_reducible refine (hfc _).mono ?_; rintro e w3 ⟨rfl, rfl⟩))
                      go_roundw
                      case rel => exact ⟨j + 1, by omega, by go_num, HO2, HQ.out⟩
                      case measure => simp [intOf]; omega
                    · have HR := Lib.hid (HNO.out (by simp [g1, g2]; omega))
                      have hw1 : IntKind.i64.wrap (n - 1) = n - 1 := IntWalk.i64_in _ ⟨by omega, by omega⟩; have hw2 : IntKind.i64.wrap (m - 1) = m - 1 := IntWalk.i64_in _ ⟨by omega, by omega⟩; have hfa : ∀ W, Calls Tryd.prog 17 #[.int .i64 fa, .int .i64 0, .int .i64 (n - 1)] W fun e w' => e = .returned (.bool true) ∧ W = w' := fun W => (in_val fa 0 (n - 1) W true (by simp; omega)); have hfb : ∀ W, Calls Tryd.prog 17 #[.int .i64 fb, .int .i64 0, .int .i64 (n - 1)] W fun e w' => e = .returned (.bool true) ∧ W = w' := fun W => (in_val fb 0 (n - 1) W true (by simp; omega)); have hfc : ∀ W, Calls Tryd.prog 17 #[.int .i64 fc, .int .i64 0, .int .i64 (m - 1)] W fun e w' => e = .returned (.bool false) ∧ W = w' := fun W => (in_val fc 0 (m - 1) W false (by simp; omega)); go_wp2_with (first | (go_at_call 17; with_reducible refine (hfa _).mono ?_; rintro e w3 ⟨rfl, rfl⟩) | (go_at_call 17; with_reducible refine (hfb _).mono ?_; rintro e w3 ⟨rfl, rfl⟩) | (go_at_call 17; with_reducible refine (hfc _).mono ?_; rintro e w3 ⟨rfl, rfl⟩))
                      go_ret
                      exact ⟨ret_bool HR.out.symm, HD.out.trans (HQ.out.mono (by simp))⟩
                  · have HR := Lib.hid (HNO.out (by simp [g1]; omega))
                    have hw1 : IntKind.i64.wrap (n - 1) = n - 1 := IntWalk.i64_in _ ⟨by omega, by omega⟩; have hw2 : IntKind.i64.wrap (m - 1) = m - 1 := IntWalk.i64_in _ ⟨by omega, by omega⟩; have hfa : ∀ W, Calls Tryd.prog 17 #[.int .i64 fa, .int .i64 0, .int .i64 (n - 1)] W fun e w' => e = .returned (.bool true) ∧ W = w' := fun W => (in_val fa 0 (n - 1) W true (by simp; omega)); have hfb : ∀ W, Calls Tryd.prog 17 #[.int .i64 fb, .int .i64 0, .int .i64 (n - 1)] W fun e w' => e = .returned (.bool false) ∧ W = w' := fun W => (in_val fb 0 (n - 1) W false (by simp; omega)); go_wp2_with (first | (go_at_call 17; with_reducible refine (hfa _).mono ?_; rintro e w3 ⟨rfl, rfl⟩) | (go_at_call 17; with_reducible refine (hfb _).mono ?_; rintro e w3 ⟨rfl, rfl⟩))
                    go_ret
                    exact ⟨ret_bool HR.out.symm, HD.out.trans (HQ.out.mono (by simp))⟩
                · have HR := Lib.hid (HNO.out (by simp; omega))
                  have hw1 : IntKind.i64.wrap (n - 1) = n - 1 := IntWalk.i64_in _ ⟨by omega, by omega⟩; have hw2 : IntKind.i64.wrap (m - 1) = m - 1 := IntWalk.i64_in _ ⟨by omega, by omega⟩; have hfa : ∀ W, Calls Tryd.prog 17 #[.int .i64 fa, .int .i64 0, .int .i64 (n - 1)] W fun e w' => e = .returned (.bool false) ∧ W = w' := fun W => (in_val fa 0 (n - 1) W false (by simp; omega)); go_wp2_with (first | (go_at_call 17; with_reducible refine (hfa _).mono ?_; rintro e w3 ⟨rfl, rfl⟩))
                  go_ret
                  exact ⟨ret_bool HR.out.symm, HD.out.trans (HQ.out.mono (by simp))⟩
              · have hjk : j = k := by omega
                have HR : Hid (isB n m k fs = true) := by show _ = _; rw [HB.out, ← hjk]; exact HO.out
                go_wp2
                go_ret
                exact ⟨ret_bool HR.out.symm, HD.out.trans (hB.mono (by simp))⟩
        · have k4 : ¬ (k : Int) ≤ 16 := by omega
          have HR : Hid (isB n m k fs = false) := by show isB _ _ _ _ = _; unfold isB; rw [decide_eq_false (by omega)]; rfl
          clear hs D0 hp hp0 hp1
          go_enter Tryd.func10, Tryd.ntmps10
          go_wp2_with (first | (go_at_call 17; first | (with_reducible refine (hn1 _).mono ?_; rintro e w3 ⟨rfl, rfl⟩) | (with_reducible refine (hm1 _).mono ?_; rintro e w3 ⟨rfl, rfl⟩)))
          go_ret
          exact ⟨ret_bool HR.out.symm, HD.out⟩
      · have HR : Hid (isB n m k fs = false) := by show isB _ _ _ _ = _; unfold isB; rw [decide_eq_false (fun h => c3 h.2.2.2.2.1)]; rfl
        clear hs D0 hp hp0 hp1
        go_enter Tryd.func10, Tryd.ntmps10
        go_wp2_with (first | (go_at_call 17; first | (with_reducible refine (hn1 _).mono ?_; rintro e w3 ⟨rfl, rfl⟩) | (with_reducible refine (hm1 _).mono ?_; rintro e w3 ⟨rfl, rfl⟩)))
        go_ret
        exact ⟨ret_bool HR.out.symm, HD.out⟩
    · have HR : Hid (isB n m k fs = false) := by show isB _ _ _ _ = _; unfold isB; rw [decide_eq_false (fun h => c2 ⟨h.2.2.1, h.2.2.2.1⟩)]; rfl
      clear hs D0
      have hn1 : ∀ W, Calls Tryd.prog 17 #[.int .i64 n, .int .i64 1, .int .i64 10] W fun e w' => e = .returned (.bool true) ∧ W = w' := fun W => in_val n 1 10 W true (by simp; omega)
      have hm1 : ∀ W, Calls Tryd.prog 17 #[.int .i64 m, .int .i64 1, .int .i64 62] W fun e w' => e = .returned (.bool false) ∧ W = w' := fun W => in_val m 1 62 W false (by simp; omega)
      go_enter Tryd.func10, Tryd.ntmps10
      go_wp2_with (first | (go_at_call 17; first | (with_reducible refine (hn1 _).mono ?_; rintro e w3 ⟨rfl, rfl⟩) | (with_reducible refine (hm1 _).mono ?_; rintro e w3 ⟨rfl, rfl⟩)))
      go_ret
      exact ⟨ret_bool HR.out.symm, HD.out⟩
  · have HR : Hid (isB n m k fs = false) := by show isB _ _ _ _ = _; unfold isB; rw [decide_eq_false (fun h => c1 ⟨h.1, h.2.1⟩)]; rfl
    clear hs D0
    have hn1 : ∀ W, Calls Tryd.prog 17 #[.int .i64 n, .int .i64 1, .int .i64 10] W fun e w' => e = .returned (.bool false) ∧ W = w' := fun W => in_val n 1 10 W false (by simp; omega)
    go_enter Tryd.func10, Tryd.ntmps10
    go_wp2_with (first | (go_at_call 17; (with_reducible refine (hn1 _).mono ?_; rintro e w3 ⟨rfl, rfl⟩)))
    go_ret
    exact ⟨ret_bool HR.out.symm, HD.out⟩

end Go.Proofs.YtbacocldjcenjaaDoor
namespace Go.Proofs.YtbacocldjcenjaaDoor
set_option maxRecDepth 100000
open Go.RowKit

set_option maxRecDepth 100000 in
set_option maxHeartbeats 3200000 in
theorem implIs_any (n m : Int) (v : Value) (k : Nat) (fs : List Int) (w : World) (hs : Sa w v k fs) (hl : k ≤ 9223372036854775807) :
    Calls Tryd.prog 23 #[.agg #[.int .i64 n, .int .i64 m, v]] w fun e w' => e = .returned (.bool (isB n m k fs)) ∧ Below w.heap.size w w' := by
  obtain ⟨a, c, rfl⟩ : ∃ a c, v = .slice a k c := ⟨_, _, hs.form⟩
  have D0 : Below w.heap.size w (w.alloc (.cells #[.int .i64 n, .int .i64 m, .slice a k c] 30)) := (Below.refl _ _).alloc (Nat.le_refl _) _
  have HD := Lib.hid D0
  by_cases c1 : 1 ≤ n ∧ n ≤ 10
  · obtain ⟨n0, n1⟩ := c1
    by_cases c2 : 1 ≤ m ∧ m ≤ 62
    · obtain ⟨m0, m1⟩ := c2
      have hp0 : 0 ≤ n * m := Int.mul_nonneg (by omega) (by omega)
      have hp1 : n * m ≤ 620 := by
        have := Int.mul_le_mul n1 m1 (by omega) (by omega : (0 : Int) ≤ 10)
        omega
      obtain ⟨p, hp⟩ : ∃ p, p = n * m := ⟨_, rfl⟩
      have hw : IntKind.i64.wrap (n * m) = n * m := IntWalk.i64_in _ ⟨by omega, by omega⟩
      by_cases c3 : n * m ≤ 62
      · by_cases c4 : k ≤ 16
        · have k4 : (k : Int) ≤ 16 := by omega
          have HB : Hid (isB n m k fs = arcsOk n m fs k) := by show isB _ _ _ _ = _; unfold isB; rw [decide_eq_true (show 1 ≤ n ∧ n ≤ 10 ∧ 1 ≤ m ∧ m ≤ 62 ∧ n * m ≤ 62 ∧ k ≤ 16 from ⟨n0, n1, m0, m1, c3, c4⟩)]; rfl
          by_cases k0 : k = 0
          · subst k0
            have HR : Hid (isB n m 0 fs = true) := by show _ = _; rw [HB.out]; rfl
            clear hs D0 HB hp hp0 hp1
            go_enter Tryd.func23, Tryd.ntmps23
            go_wp2
            go_loopw [38] (fun i wr => i = .int .i64 0 ∧ wr = w.alloc (.cells #[.int .i64 n, .int .i64 m, .slice a 0 c] 30)) (fun i _ => 0)
            case atStart => exact ⟨rfl, rfl⟩
            case round =>
              obtain ⟨rfl, rfl⟩ := hrel
              go_wp2
              go_ret
              exact ⟨ret_bool HR.out.symm, HD.out⟩
          · obtain ⟨hk3, ⟨_, _, _, e⟩ | ⟨b, off, cap, e, hb, hc⟩⟩ := hs
            · exact absurd e k0
            obtain ⟨rfl, rfl⟩ : a = some ⟨b, off, none⟩ ∧ c = cap := by cases e; exact ⟨rfl, rfl⟩
            have HC := Lib.hid hc; have HK := Lib.hid hk3
            have X0 := Lib.hid (World.alloc_heap_new w (.cells #[.int .i64 n, .int .i64 m, .slice (some ⟨b, off, none⟩) k c] 30))
            clear hc hk3 D0 hp hp0 hp1 e
            go_enter Tryd.func23, Tryd.ntmps23
            go_wp2
            go_loopw [38] (fun i wr => ∃ j : Nat, j ≤ k ∧ i = .int .i64 j ∧ Hid (arcsOk n m fs j = true) ∧ Below (w.heap.size + 1) (w.alloc (.cells #[.int .i64 n, .int .i64 m, .slice (some ⟨b, off, none⟩) k c] 30)) wr) (fun i _ => k - (intOf i).toNat)
            case atStart => exact ⟨0, Nat.zero_le _, rfl, rfl, Below.refl _ _⟩
            case round =>
              obtain ⟨j, hj, rfl, HO, hB⟩ := hrel
              have hsz : w.heap.size + 1 ≤ wr.heap.size := by have := hB.size; simpa using this
              have hlt1 : w.heap.size < wr.heap.size := by omega
              have hne1 : ¬ w.heap.size = wr.heap.size := by omega
              have hne2 : ¬ wr.heap.size = w.heap.size := by omega
              obtain ⟨⟨q0, q1, q2⟩, -, -, -⟩ := three_cells ((hB.block w.heap.size (by omega)).trans X0.out)
              by_cases hlt : (j : Int) < k
              · have hj0 : (0 : Int) ≤ j := by omega
                have hkl := HK.out
                have hbc : ∀ i, i < fs.length → wr.cell? ⟨b, off + i, none⟩ = some (.int .i64 (el fs i)) := fun i hi => ((HD.out.trans (hB.mono (by simp))).cell (p := ⟨b, off + i, none⟩) hb).trans (HC.out i hi)
                have z0 := hbc (j * 3) (by omega)
                have z1 := hbc (j * 3 + 1) (by omega)
                have z2 := hbc (j * 3 + 2) (by omega)
                rw [← Nat.add_assoc] at z1 z2
                obtain ⟨fa, hfa⟩ : ∃ x, x = el fs (j * 3) := ⟨_, rfl⟩
                obtain ⟨fb, hfb⟩ : ∃ x, x = el fs (j * 3 + 1) := ⟨_, rfl⟩
                obtain ⟨fc, hfc⟩ : ∃ x, x = el fs (j * 3 + 2) := ⟨_, rfl⟩
                rw [← hfa] at z0; rw [← hfb] at z1; rw [← hfc] at z2
                have HN : Hid (arcsOk n m fs (j + 1) = (arcsOk n m fs j && ((decide (0 ≤ fa) && decide (fa < n)) && ((decide (0 ≤ fb) && decide (fb < n)) && (decide (0 ≤ fc) && decide (fc < m)))))) := by
                  show arcsOk _ _ _ _ = _; rw [arcsOk_succ, hfa, hfb, hfc]
                have HNO : Hid (((decide (0 ≤ fa) && decide (fa < n)) && ((decide (0 ≤ fb) && decide (fb < n)) && (decide (0 ≤ fc) && decide (fc < m)))) = false → isB n m k fs = false) := fun h => by
                  rw [HB.out]
                  exact arcsOk_no (by omega : j < k) (by rw [hfa, hfb, hfc] at h; exact h)
                have Q0 := hB.alloc hsz (.cells #[.int .i64 fa, .int .i64 fb, .int .i64 fc] 51)
                have HQ := Lib.hid Q0
                clear hkl hbc hfa hfb hfc Q0
                by_cases g1 : 0 ≤ fa ∧ fa < n
                · by_cases g2 : 0 ≤ fb ∧ fb < n
                  · by_cases g3 : 0 ≤ fc ∧ fc < m
                    · have HO2 : Hid (arcsOk n m fs (j + 1) = true) := by show _ = _; rw [HN.out, HO.out]; simp [g1, g2, g3]
                      have hfa : ∀ W, Calls Tryd.prog 33 #[.int .i64 n, .int .i64 fa] W fun e w' => e = .returned (.bool true) ∧ W = w' := fun W => (vertex_val n fa W true (by simp; omega)); have hfb : ∀ W, Calls Tryd.prog 33 #[.int .i64 n, .int .i64 fb] W fun e w' => e = .returned (.bool true) ∧ W = w' := fun W => (vertex_val n fb W true (by simp; omega)); have hfc : ∀ W, Calls Tryd.prog 34 #[.int .i64 m, .int .i64 fc] W fun e w' => e = .returned (.bool true) ∧ W = w' := fun W => (rest_val m fc W true (by simp; omega)); go_wp2_with (first | (go_at_call 33; with_reducible refine (hfa _).mono ?_; rintro e w3 ⟨rfl, rfl⟩) | (go_at_call 33; with_reducible refine (hfb _).mono ?_; rintro e w3 ⟨rfl, rfl⟩) | (go_at_call 34; with_reducible refine (hfc _).mono ?_; rintro e w3 ⟨rfl, rfl⟩))
                      go_roundw
                      case rel => exact ⟨j + 1, by omega, by go_num, HO2, HQ.out⟩
                      case measure => simp [intOf]; omega
                    · have HR := Lib.hid (HNO.out (by simp [g1, g2]; omega))
                      have hfa : ∀ W, Calls Tryd.prog 33 #[.int .i64 n, .int .i64 fa] W fun e w' => e = .returned (.bool true) ∧ W = w' := fun W => (vertex_val n fa W true (by simp; omega)); have hfb : ∀ W, Calls Tryd.prog 33 #[.int .i64 n, .int .i64 fb] W fun e w' => e = .returned (.bool true) ∧ W = w' := fun W => (vertex_val n fb W true (by simp; omega)); have hfc : ∀ W, Calls Tryd.prog 34 #[.int .i64 m, .int .i64 fc] W fun e w' => e = .returned (.bool false) ∧ W = w' := fun W => (rest_val m fc W false (by simp; omega)); go_wp2_with (first | (go_at_call 33; with_reducible refine (hfa _).mono ?_; rintro e w3 ⟨rfl, rfl⟩) | (go_at_call 33; with_reducible refine (hfb _).mono ?_; rintro e w3 ⟨rfl, rfl⟩) | (go_at_call 34; with_reducible refine (hfc _).mono ?_; rintro e w3 ⟨rfl, rfl⟩))
                      go_ret
                      exact ⟨ret_bool HR.out.symm, HD.out.trans (HQ.out.mono (by simp))⟩
                  · have HR := Lib.hid (HNO.out (by simp [g1]; omega))
                    have hfa : ∀ W, Calls Tryd.prog 33 #[.int .i64 n, .int .i64 fa] W fun e w' => e = .returned (.bool true) ∧ W = w' := fun W => (vertex_val n fa W true (by simp; omega)); have hfb : ∀ W, Calls Tryd.prog 33 #[.int .i64 n, .int .i64 fb] W fun e w' => e = .returned (.bool false) ∧ W = w' := fun W => (vertex_val n fb W false (by simp; omega)); go_wp2_with (first | (go_at_call 33; with_reducible refine (hfa _).mono ?_; rintro e w3 ⟨rfl, rfl⟩) | (go_at_call 33; with_reducible refine (hfb _).mono ?_; rintro e w3 ⟨rfl, rfl⟩))
                    go_ret
                    exact ⟨ret_bool HR.out.symm, HD.out.trans (HQ.out.mono (by simp))⟩
                · have HR := Lib.hid (HNO.out (by simp; omega))
                  have hfa : ∀ W, Calls Tryd.prog 33 #[.int .i64 n, .int .i64 fa] W fun e w' => e = .returned (.bool false) ∧ W = w' := fun W => (vertex_val n fa W false (by simp; omega)); go_wp2_with (first | (go_at_call 33; with_reducible refine (hfa _).mono ?_; rintro e w3 ⟨rfl, rfl⟩))
                  go_ret
                  exact ⟨ret_bool HR.out.symm, HD.out.trans (HQ.out.mono (by simp))⟩
              · have hjk : j = k := by omega
                have HR : Hid (isB n m k fs = true) := by show _ = _; rw [HB.out, ← hjk]; exact HO.out
                go_wp2
                go_ret
                exact ⟨ret_bool HR.out.symm, HD.out.trans (hB.mono (by simp))⟩
        · have k4 : ¬ (k : Int) ≤ 16 := by omega
          have HR : Hid (isB n m k fs = false) := by show isB _ _ _ _ = _; unfold isB; rw [decide_eq_false (by omega)]; rfl
          clear hs D0 hp hp0 hp1
          go_enter Tryd.func23, Tryd.ntmps23
          go_wp2
          go_ret
          exact ⟨ret_bool HR.out.symm, HD.out⟩
      · have HR : Hid (isB n m k fs = false) := by show isB _ _ _ _ = _; unfold isB; rw [decide_eq_false (fun h => c3 h.2.2.2.2.1)]; rfl
        clear hs D0 hp hp0 hp1
        go_enter Tryd.func23, Tryd.ntmps23
        go_wp2
        go_ret
        exact ⟨ret_bool HR.out.symm, HD.out⟩
    · have HR : Hid (isB n m k fs = false) := by show isB _ _ _ _ = _; unfold isB; rw [decide_eq_false (fun h => c2 ⟨h.2.2.1, h.2.2.2.1⟩)]; rfl
      clear hs D0
      by_cases m0 : 1 ≤ m
      · have m1 : ¬ m ≤ 62 := by omega
        go_enter Tryd.func23, Tryd.ntmps23
        go_wp2
        go_ret
        exact ⟨ret_bool HR.out.symm, HD.out⟩
      · go_enter Tryd.func23, Tryd.ntmps23
        go_wp2
        go_ret
        exact ⟨ret_bool HR.out.symm, HD.out⟩
  · have HR : Hid (isB n m k fs = false) := by show isB _ _ _ _ = _; unfold isB; rw [decide_eq_false (fun h => c1 ⟨h.1, h.2.1⟩)]; rfl
    clear hs D0
    by_cases n0 : 1 ≤ n
    · have n1 : ¬ n ≤ 10 := by omega
      go_enter Tryd.func23, Tryd.ntmps23
      go_wp2
      go_ret
      exact ⟨ret_bool HR.out.symm, HD.out⟩
    · go_enter Tryd.func23, Tryd.ntmps23
      go_wp2
      go_ret
      exact ⟨ret_bool HR.out.symm, HD.out⟩
end Go.Proofs.YtbacocldjcenjaaDoor
