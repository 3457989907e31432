/-
  Arcs: lists of triples in memory, copies of them, their comparison. (A plain seat.)
-/
import Derived.Test.YthonkphjahomeaaPg
import Derived.WalkSpells
import Derived.WalkLawsBesides
import Derived.BigQuiet
import Derived.Deep.QuietTactic
import Derived.Deep.RegionHeld3
import Derived.Lib.Hide
import Derived.OwnWalk
import Derived.KernelRfl
import Derived.RangeFuncRecord
namespace Go.Proofs.Ythonkphjahomeaa
set_option maxRecDepth 100000
open Go.RowKit

def arcV (a b c : Int) : Value := .agg #[.int .i64 a, .int .i64 b, .int .i64 c]

set_option maxHeartbeats 400000 in
theorem eqArc_any (a b c a' b' c' : Int) (w : World) :
    Calls Try.prog 25 #[.agg #[.int .i64 a, .int .i64 b, .int .i64 c], .agg #[.int .i64 a', .int .i64 b', .int .i64 c']] w fun e w' => e = .returned (.bool (decide (a = a') && (decide (b = b') && decide (c = c')))) ∧ Below w.heap.size w w' := by
  have D0 : Below w.heap.size w ((w.alloc (.cells #[.int .i64 a, .int .i64 b, .int .i64 c] 41)).alloc (.cells #[.int .i64 a', .int .i64 b', .int .i64 c'] 41)) := ((Below.refl _ _).alloc (Nat.le_refl _) _).alloc (by simp) _
  have HD := Lib.hid D0
  clear D0
  by_cases h1 : a = a'
  · by_cases h2 : b = b'
    · by_cases h3 : c = c'
      · subst h1; subst h2; subst h3
        go_enter Try.func25, Try.ntmps25
        go_wp2
        go_ret
        exact ⟨ret_bool (by simp), HD.out⟩
      · have t3 : (c != c') = true := by simpa using h3
        have H3 := Lib.hid h3
        clear h3
        subst h1; subst h2
        go_enter Try.func25, Try.ntmps25
        go_wp2
        go_ret
        exact ⟨ret_bool (by simp [H3.out]), HD.out⟩
    · have t3 : (b != b') = true := by simpa using h2
      have H3 := Lib.hid h2
      clear h2
      subst h1
      go_enter Try.func25, Try.ntmps25
      go_wp2
      go_ret
      exact ⟨ret_bool (by simp [H3.out]), HD.out⟩
  · have t3 : (a != a') = true := by simpa using h1
    have H3 := Lib.hid h1
    clear h1
    go_enter Try.func25, Try.ntmps25
    go_wp2
    go_ret
    exact ⟨ret_bool (by simp [H3.out]), HD.out⟩

theorem infoArc : (Try.prog.info? 41).map (·.size) = some 3 := by kernel_rfl
theorem infoArcL : (Try.prog.info? 51).map (·.size) = some 3 := by kernel_rfl

set_option maxHeartbeats 400000 in
theorem toArc_any (a b c : Int) (w : World) :
    Calls Try.prog 19 #[.agg #[.int .i64 a, .int .i64 b, .int .i64 c]] w fun e w' => e = .returned (.agg #[.int .i64 a, .int .i64 b, .int .i64 c]) ∧ Below w.heap.size w w' := by
  have D0 : Below w.heap.size w (((w.alloc (.cells #[.int .i64 a, .int .i64 b, .int .i64 c] 51)).alloc (.cells #[.int .i64 a, .int .i64 b, .int .i64 c] 41)).alloc (.cells #[.int .i64 a, .int .i64 b, .int .i64 c] 41)) := (((Below.refl _ _).alloc (Nat.le_refl _) _).alloc (by simp) _).alloc (by simp; omega) _
  have X1 : (((w.alloc (.cells #[.int .i64 a, .int .i64 b, .int .i64 c] 51)).alloc (.cells #[.int .i64 a, .int .i64 b, .int .i64 c] 41)).alloc (.cells #[.int .i64 a, .int .i64 b, .int .i64 c] 41)).heap[w.heap.size + 1]? = some (.cells #[.int .i64 a, .int .i64 b, .int .i64 c] 41 (0, 0)) := heap_old_at (heap_new_at (w.alloc (.cells #[.int .i64 a, .int .i64 b, .int .i64 c] 51)) (.cells #[.int .i64 a, .int .i64 b, .int .i64 c] 41) (w.heap.size + 1) (by simp)) _
  have HD := Lib.hid D0; have HX := Lib.hid X1
  clear D0 X1
  go_enter Try.func19, Try.ntmps19
  go_wp2
  exact bodyPost_ret (v := .agg #[.int .i64 a, .int .i64 b, .int .i64 c]) (results_cell_row (p := 2) (ty := 41) rfl _ _ (w.heap.size + 1) 41 _ (0, 0) _ rfl HX.out Try.underlying41 rfl (by exact infoArc)) rfl ⟨rfl, HD.out⟩

/-- The slice value v of k arcs reads as the numbers fs, three for each. -/
def Sa (w : World) (v : Value) (k : Nat) (fs : List Int) : Prop := fs.length = 3 * k ∧
  ((∃ a c, v = .slice a 0 c ∧ k = 0) ∨ ∃ b off cap, v = .slice (some ⟨b, off, none⟩) k cap ∧ b < w.heap.size ∧ Cells w b off fs)
theorem Sa.below {w w' : World} {v : Value} {k : Nat} {fs : List Int} (h : Sa w v k fs) (hb : Below w.heap.size w w') : Sa w' v k fs := by
  refine ⟨h.1, ?_⟩
  rcases h.2 with h | ⟨b, off, cap, e, hl, hc⟩
  · exact .inl h
  · exact .inr ⟨b, off, cap, e, Nat.lt_of_lt_of_le hl hb.size, hc.below hb hl⟩
theorem Sa.form {w : World} {v : Value} {k : Nat} {fs : List Int} (h : Sa w v k fs) : v = .slice (slPtr v) k (slCap v) := by
  rcases h.2 with ⟨a, c, rfl, rfl⟩ | ⟨b, off, cap, rfl, _, _⟩ <;> rfl

set_option maxHeartbeats 400000 in
theorem szArcs_any (v : Value) (k : Nat) (fs : List Int) (left : Int) (w : World) (hs : Sa w v k fs) (h0 : 0 ≤ left) (h1 : left ≤ 1048576) (hl : k ≤ 9223372036854775807) :
    Calls Try.prog 9 #[v, .int .i64 left] w fun e w' => e = .returned (.int .i64 (if left < k then -1 else left - k)) ∧ w = w' := by
  have hf := hs.form
  rw [hf]; clear hf hs
  by_cases hlt : left < k
  · rw [if_pos hlt]
    go_enter Try.func9, Try.ntmps9
    go_wp2
    go_ret
    exact ⟨rfl, rfl⟩
  · rw [if_neg hlt]
    go_enter Try.func9, Try.ntmps9
    go_wp2
    go_ret
    exact ⟨rfl, rfl⟩

/-- Block g holds just the numbers of fs, as arcs. -/
def ABlk (w : World) (g : Nat) (zs : List Int) : Prop := w.heap[g]? = some (.cells (intsA zs) 41 (0, 0))
theorem ABlk.lt {w : World} {g : Nat} {zs : List Int} (h : ABlk w g zs) : g < w.heap.size := (Array.getElem?_eq_some_iff.1 h).1
theorem ABlk.cell {w : World} {g : Nat} {zs : List Int} (h : ABlk w g zs) {i : Nat} (hi : i < zs.length) : w.cell? ⟨g, i, none⟩ = some (.int .i64 (el zs i)) := by
  rw [cell_of_row w g i _ _ _ h]; exact intsA_at zs i hi
theorem ABlk.frozen {w : World} {g : Nat} {zs : List Int} (h : ABlk w g zs) (i : Nat) : w.frozen? ⟨g, i, none⟩ = false := frozen_of_row w g i _ _ h
theorem ABlk.new (w : World) (zs : List Int) : ABlk (w.alloc (.cells (intsA zs) 41)) w.heap.size zs := World.alloc_heap_new w _
theorem ABlk.below {B : Nat} {w w' : World} {g : Nat} {zs : List Int} (h : ABlk w g zs) (hb : Below B w w') (hg : g < B) : ABlk w' g zs := (hb.block g hg).trans h
theorem ABlk.belowAll {w w' : World} {g : Nat} {zs : List Int} (h : ABlk w g zs) (hb : Below w.heap.size w w') : ABlk w' g zs := h.below hb h.lt
theorem ABlk.set {w : World} {g : Nat} {zs : List Int} (h : ABlk w g zs) (j : Nat) (n : Int) : ABlk (w.setCell ⟨g, j, none⟩ (.int .i64 n)) g (zs.set j n) := by
  unfold ABlk at *
  rw [heap_setCell_same w g j _ _ _ h]
  congr 2
  unfold intsA
  rw [List.map_set, List.setIfInBounds_toArray]
theorem ABlk.sa {w : World} {g k : Nat} {zs : List Int} (h : ABlk w g zs) (hk : zs.length = 3 * k) (cap : Nat) : Sa w (.slice (some ⟨g, 0, none⟩) k cap) k zs :=
  ⟨hk, .inr ⟨g, 0, cap, rfl, h.lt, fun i hi => by rw [Nat.zero_add]; exact h.cell hi⟩⟩

theorem mk_infoArc : (Try.prog.info? 41).map (fun i => (i.zero, i.size, i.bytes)) = some (some (.agg #[.int .i64 0, .int .i64 0, .int .i64 0]), 3, 24) := by kernel_rfl
theorem run_mkArcs (k : Nat) (h : k ≤ 1048576) (w : World) : (Instr.makeSlice 28 (.int .i64 k) (.int .i64 k)).run Try.prog w = .ok (.slice (some ⟨w.heap.size, 0, none⟩) k k) (w.alloc (.cells (intsA (List.replicate (3 * k) 0)) 41)) := by
  obtain ⟨i0, hi, hz0, hz1, hz2⟩ := info_parts mk_infoArc
  rw [run_make w 28 41 i0 (.agg #[.int .i64 0, .int .i64 0, .int .i64 0]) Try.underlying28 hi hz0 .i64 .i64 k k (by omega) (by omega) (by rw [hz2]; omega) (by omega)]
  simp only [Int.toNat_natCast, hz1]
  congr 2
  unfold intsA madeCells
  congr 1
  apply Array.ext_getElem?
  intro j
  by_cases hj : j < k * 3
  · have h3 : j % 3 = 0 ∨ j % 3 = 1 ∨ j % 3 = 2 := by omega
    have hj2 : j < 3 * k := by omega
    rcases h3 with h3 | h3 | h3 <;> simp [hj, hj2, Value.cells, h3]
  · rw [Array.getElem?_eq_none (by simp; omega), Array.getElem?_eq_none (by simp; omega)]
end Go.Proofs.Ythonkphjahomeaa
