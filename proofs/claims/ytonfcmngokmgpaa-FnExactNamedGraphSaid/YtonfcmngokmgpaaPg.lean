/-
  The base of a plain seat whose answers are graphs: slices of numbers that read as lists, blocks, rows that the call owns, the laws' helpers.
-/
import Derived.Test.YtonfcmngokmgpaaProg
import Derived.Test.YtonfcmngokmgpaaMath
import Derived.WalkSpells
import Derived.WalkLawsBesides
import Derived.BigQuiet
import Derived.Deep.QuietTactic
import Derived.Deep.RegionHeld3
import Derived.Lib.Hide
import Derived.OwnWalk
import Derived.KernelRfl
import Derived.Maps.AppendAt
import Derived.RangeFuncRecord
import Derived.Deep.AppendLies
namespace Go.Proofs.Ytonfcmngokmgpaa
set_option maxRecDepth 100000
open Go.RowKit

theorem ret_bool {a b : Bool} (h : a = b) : Ending.returned (.bool a) = .returned (.bool b) := by rw [h]
theorem ret_int {k : IntKind} {a b : Int} (h : a = b) : Ending.returned (.int k a) = .returned (.int k b) := by rw [h]

/-- The cells from off on in block b hold the numbers of a list. -/
def Cells (w : World) (b off : Nat) (zs : List Int) : Prop := ∀ i, i < zs.length → w.cell? ⟨b, off + i, none⟩ = some (.int .i64 (el zs i))

theorem Cells.below {B b off : Nat} {zs : List Int} {w w' : World} (h : Cells w b off zs) (hb : Below B w w') (hl : b < B) : Cells w' b off zs :=
  fun i hi => (hb.cell (p := ⟨b, off + i, none⟩) hl).trans (h i hi)

/-- The slice value v reads as zs in w. -/
def Sl (w : World) (v : Value) (zs : List Int) : Prop :=
  (∃ a c, v = .slice a 0 c ∧ zs = []) ∨ ∃ b off cap, v = .slice (some ⟨b, off, none⟩) zs.length cap ∧ b < w.heap.size ∧ Cells w b off zs

theorem Sl.below {w w' : World} {v : Value} {zs : List Int} (h : Sl w v zs) (hb : Below w.heap.size w w') : Sl w' v zs := by
  rcases h with h | ⟨b, off, cap, e, hl, hc⟩
  · exact .inl h
  · exact .inr ⟨b, off, cap, e, Nat.lt_of_lt_of_le hl hb.size, hc.below hb hl⟩

/-- Old cells and marks read as before behind what leaves all that was there. -/
theorem bcell {W w1 : World} (hb : Below W.heap.size W w1) : (∀ b o, b < W.heap.size → w1.cell? ⟨b, o, none⟩ = W.cell? ⟨b, o, none⟩) ∧ (∀ b o, b < W.heap.size → w1.frozen? ⟨b, o, none⟩ = W.frozen? ⟨b, o, none⟩) :=
  ⟨fun b o h => hb.cell (p := ⟨b, o, none⟩) h, fun b o h => hb.frozen (p := ⟨b, o, none⟩) h⟩

/-- A contract that leaves the world alone, inside 'go_quiet'. -/
theorem qsame {P : Program} {f : FuncId} {args : Array Value} {w : World} {n : Nat} {v : Value}
    (h : Calls P f args (w.drewN n) fun e w' => e = .returned v ∧ w.drewN n = w') : Calls P f args (w.drewN n) fun e w'' => e = .returned v ∧ ∃ m, w'' = w.drewN m :=
  h.mono fun _ _ ⟨he, hm⟩ => ⟨he, n, hm.symm⟩
theorem drewN_below {B : Nat} {a w : World} (h : Below B a w) (n : Nat) : Below B a (w.drewN n) := ⟨h.os, h.tape, h.output, h.size, h.block⟩


theorem el_lt {zs : List Int} {i : Nat} (h : i < zs.length) : el zs i = zs[i] := by simp [el, h]
theorem el_ge {zs : List Int} {i : Nat} (h : zs.length ≤ i) : el zs i = 0 := by simp [el, h]

/-- The pointer and the capacity of a slice. -/
def slPtr : Value → Option Addr | .slice a _ _ => a | _ => none
def slCap : Value → Nat | .slice _ _ c => c | _ => 0
theorem slForm {w : World} {v : Value} {zs : List Int} (h : Sl w v zs) : v = .slice (slPtr v) zs.length (slCap v) := by
  rcases h with ⟨a, c, rfl, rfl⟩ | ⟨b, off, cap, rfl, _, _⟩ <;> rfl

/-- The cells of a list of numbers. -/
def intsA (zs : List Int) : Array Value := (zs.map (Value.int .i64)).toArray
theorem intsA_size (zs : List Int) : (intsA zs).size = zs.length := by simp [intsA]
theorem intsA_at (zs : List Int) (i : Nat) (h : i < zs.length) : (intsA zs)[i]? = some (.int .i64 (el zs i)) := by simp [intsA, h, el_lt h]
/-- Block g holds just the numbers of zs. -/
def Blk (w : World) (g : Nat) (zs : List Int) : Prop := w.heap[g]? = some (.cells (intsA zs) 2 (0, 0))
theorem Blk.lt {w : World} {g : Nat} {zs : List Int} (h : Blk w g zs) : g < w.heap.size := (Array.getElem?_eq_some_iff.1 h).1
theorem Blk.cell {w : World} {g : Nat} {zs : List Int} (h : Blk w g zs) {i : Nat} (hi : i < zs.length) : w.cell? ⟨g, i, none⟩ = some (.int .i64 (el zs i)) := by
  rw [cell_of_row w g i _ _ _ h]; exact intsA_at zs i hi
theorem Blk.frozen {w : World} {g : Nat} {zs : List Int} (h : Blk w g zs) (i : Nat) : w.frozen? ⟨g, i, none⟩ = false := frozen_of_row w g i _ _ h
theorem Blk.new (w : World) (zs : List Int) : Blk (w.alloc (.cells (intsA zs) 2)) w.heap.size zs := World.alloc_heap_new w _
theorem Blk.alloc {w : World} {g : Nat} {zs : List Int} (h : Blk w g zs) (o : Obj) : Blk (w.alloc o) g zs := (Below.heap_alloc w o g h.lt).trans h
theorem Blk.below {B : Nat} {w w' : World} {g : Nat} {zs : List Int} (h : Blk w g zs) (hb : Below B w w') (hg : g < B) : Blk w' g zs := (hb.block g hg).trans h
theorem Blk.belowAll {w w' : World} {g : Nat} {zs : List Int} (h : Blk w g zs) (hb : Below w.heap.size w w') : Blk w' g zs := h.below hb h.lt
theorem Blk.other {w : World} {g : Nat} {zs : List Int} (h : Blk w g zs) {a : Addr} (ha : g ≠ a.block) (v : Value) : Blk (w.setCell a v) g zs := (Below.heap_setCell w a v g ha).trans h
theorem Blk.set {w : World} {g : Nat} {zs : List Int} (h : Blk w g zs) (j : Nat) (n : Int) : Blk (w.setCell ⟨g, j, none⟩ (.int .i64 n)) g (zs.set j n) := by
  unfold Blk at *
  rw [heap_setCell_same w g j _ _ _ h]
  congr 2
  unfold intsA
  rw [List.map_set, List.setIfInBounds_toArray]
theorem Blk.sl {w : World} {g : Nat} {zs : List Int} (h : Blk w g zs) (cap : Nat) : Sl w (.slice (some ⟨g, 0, none⟩) zs.length cap) zs :=
  .inr ⟨g, 0, cap, rfl, h.lt, fun i hi => by rw [Nat.zero_add]; exact h.cell hi⟩

theorem mk_info : (Try.prog.info? 2).map (fun i => (i.zero, i.size, i.bytes)) = some (some (.int .i64 0), 1, 8) := by kernel_rfl
set_option maxRecDepth 100000 in
theorem run_mkInts (len : Nat) (h : len ≤ 1048576) (w : World) : (Instr.makeSlice 22 (.int .i64 len) (.int .i64 len)).run Try.prog w = .ok (.slice (some ⟨w.heap.size, 0, none⟩) len len) (w.alloc (.cells (intsA (List.replicate len 0)) 2)) := by
  obtain ⟨i0, hi, hz0, hz1, hz2⟩ := info_parts mk_info
  rw [run_make w 22 2 i0 (.int .i64 0) Try.underlying22 hi hz0 .i64 .i64 len len (by omega) (by omega) (by rw [hz2]; omega) (by omega)]
  simp only [Int.toNat_natCast, hz1, Nat.mul_one]
  congr 2
  unfold intsA madeCells
  congr 1
  apply Array.ext_getElem?
  intro j
  by_cases hj : j < len
  · simp [hj, Value.cells, Nat.mod_one]
  · rw [Array.getElem?_eq_none (by simp; omega), Array.getElem?_eq_none (by simp; omega)]

/-- The first k numbers copied. -/
def part (zs : List Int) (k : Nat) : List Int := zs.take k ++ List.replicate (zs.length - k) 0
theorem part_length (zs : List Int) (k : Nat) (h : k ≤ zs.length) : (part zs k).length = zs.length := by simp [part]; omega
theorem part_succ (zs : List Int) (k : Nat) (h : k < zs.length) : (part zs k).set k (el zs k) = part zs (k + 1) := by
  apply List.ext_getElem?
  intro j
  have hm : min k zs.length = k := by omega
  have hm' : min (k + 1) zs.length = k + 1 := by omega
  by_cases hj : j = k
  · subst hj
    rw [List.getElem?_set_self (by rw [part_length _ _ (by omega)]; exact h), part, List.getElem?_append_left (by rw [List.length_take, hm']; omega), el_lt h]
    simp [h]
  · rw [List.getElem?_set_ne (fun e => hj e.symm)]
    by_cases hlt : j < k
    · rw [part, part, List.getElem?_append_left (by rw [List.length_take, hm]; exact hlt), List.getElem?_append_left (by rw [List.length_take, hm']; omega)]
      simp [hlt, Nat.lt_succ_of_lt hlt]
    · rw [part, part, List.getElem?_append_right (by rw [List.length_take, hm]; omega), List.getElem?_append_right (by rw [List.length_take, hm']; omega)]
      simp only [List.length_take, hm, hm', List.getElem?_replicate]
      by_cases hz : j < zs.length
      · rw [if_pos (by omega), if_pos (by omega)]
      · rw [if_neg (by omega), if_neg (by omega)]
theorem part_all (zs : List Int) : part zs zs.length = zs := by simp [part]
theorem part_zero (zs : List Int) : part zs 0 = List.replicate zs.length 0 := by simp [part]

theorem take_eq_succ (xs ys : List Int) (k : Nat) (hx : k < xs.length) (hy : k < ys.length) (h : xs.take k = ys.take k) (he : el xs k = el ys k) : xs.take (k + 1) = ys.take (k + 1) := by
  rw [List.take_succ_eq_append_getElem hx, List.take_succ_eq_append_getElem hy, h, ← el_lt hx, ← el_lt hy, he]

set_option maxHeartbeats 800000 in
theorem eqInts_len (v1 v2 : Value) (xs ys : List Int) (w : World) (h1 : Sl w v1 xs) (h2 : Sl w v2 ys) (hne : xs.length ≠ ys.length) :
    Calls Try.prog 21 #[v1, v2] w fun e w' => e = .returned (.bool false) ∧ w = w' := by
  have f1 := slForm h1
  have f2 := slForm h2
  rw [f1, f2]; clear f1 f2 h1 h2
  have hb : ((xs.length : Int) != ys.length) = true := by rw [bne_iff_ne]; omega
  go_enter Try.func21, Try.ntmps21
  go_wp2
  go_ret
  exact ⟨rfl, rfl⟩

set_option maxHeartbeats 800000 in
theorem eqInts_zero (v1 v2 : Value) (w : World) (h1 : Sl w v1 []) (h2 : Sl w v2 []) :
    Calls Try.prog 21 #[v1, v2] w fun e w' => e = .returned (.bool true) ∧ Below w.heap.size w w' := by
  have f1 := slForm h1
  have f2 := slForm h2
  rw [f1, f2]; clear f1 f2 h1 h2
  go_enter Try.func21, Try.ntmps21
  go_wp2
  go_loopw [5] (fun i wr => i = .int .i64 0 ∧ Below w.heap.size w wr) (fun i _ => 0)
  case atStart => exact ⟨rfl, Below.refl _ _⟩
  case round =>
    obtain ⟨rfl, hb⟩ := hrel
    go_wp2
    go_ret
    exact ⟨rfl, hb⟩

set_option maxHeartbeats 800000 in
theorem eqInts_some (b1 o1 c1 b2 o2 c2 n : Nat) (xs ys : List Int) (w : World) (hn1 : xs.length = n) (hn2 : ys.length = n) (hb1 : b1 < w.heap.size) (hc1 : Cells w b1 o1 xs) (hb2 : b2 < w.heap.size) (hc2 : Cells w b2 o2 ys) (hl : n ≤ 9223372036854775807) :
    Calls Try.prog 21 #[.slice (some ⟨b1, o1, none⟩) n c1, .slice (some ⟨b2, o2, none⟩) n c2] w fun e w' => e = .returned (.bool (decide (xs = ys))) ∧ Below w.heap.size w w' := by
  have HC1 := Lib.hid hc1; clear hc1
  have HC2 := Lib.hid hc2; clear hc2
  have HN1 := Lib.hid hn1; clear hn1
  have HN2 := Lib.hid hn2; clear hn2
  go_enter Try.func21, Try.ntmps21
  go_wp2
  go_loopw [5] (fun i wr => ∃ k : Nat, k ≤ n ∧ i = .int .i64 k ∧ Hid (xs.take k = ys.take k) ∧ Below w.heap.size w wr) (fun i _ => n - (intOf i).toNat)
  case atStart => exact ⟨0, Nat.zero_le _, rfl, rfl, Below.refl _ _⟩
  case round =>
    obtain ⟨k, hk, rfl, HE, hb⟩ := hrel
    by_cases hlt : (k : Int) < n
    · have hk1 : k < xs.length := by have := HN1.out; omega
      have hk2 : k < ys.length := by have := HN2.out; omega
      have hz1 : wr.cell? ⟨b1, o1 + k, none⟩ = some (.int .i64 (el xs k)) := (hb.cell (p := ⟨b1, o1 + k, none⟩) hb1).trans (HC1.out k hk1)
      have hz2 : wr.cell? ⟨b2, o2 + k, none⟩ = some (.int .i64 (el ys k)) := (hb.cell (p := ⟨b2, o2 + k, none⟩) hb2).trans (HC2.out k hk2)
      have hk0 : (0 : Int) ≤ k := by omega
      by_cases he : el xs k = el ys k
      · have HO : Hid (xs.take (k + 1) = ys.take (k + 1)) := take_eq_succ xs ys k hk1 hk2 HE.out he
        have hne : (el xs k != el ys k) = false := by simpa using he
        clear he
        go_wp2
        go_quiet (fail)
        go_wp2
        go_roundw
        case rel => exact ⟨k + 1, by omega, by go_num, HO, drewN_below hb _⟩
        case measure => simp [intOf]; omega
      · have hne : (el xs k != el ys k) = true := by simpa using he
        have hd : decide (xs = ys) = false := by simp; intro e; exact he (by rw [e])
        have HD := Lib.hid hd; clear hd he
        go_wp2
        go_quiet (fail)
        go_wp2
        go_ret
        exact ⟨ret_bool HD.out.symm, drewN_below hb _⟩
    · have hkl : k = n := by omega
      subst hkl
      have hd : decide (xs = ys) = true := by
        have h1 := HE.out
        rw [List.take_of_length_le (by have := HN1.out; omega), List.take_of_length_le (by have := HN2.out; omega)] at h1
        simpa using h1
      have HD := Lib.hid hd; clear hd
      go_wp2
      go_ret
      exact ⟨ret_bool HD.out.symm, hb⟩

theorem eqInts_any (v1 v2 : Value) (xs ys : List Int) (w : World) (h1 : Sl w v1 xs) (h2 : Sl w v2 ys) (hx : xs.length ≤ 9223372036854775807) :
    Calls Try.prog 21 #[v1, v2] w fun e w' => e = .returned (.bool (decide (xs = ys))) ∧ Below w.heap.size w w' := by
  by_cases hne : xs.length = ys.length
  · by_cases h0 : xs.length = 0
    · obtain rfl := List.eq_nil_of_length_eq_zero h0
      obtain rfl := List.eq_nil_of_length_eq_zero (hne.symm.trans h0)
      exact eqInts_zero v1 v2 w h1 h2
    · rcases h1 with ⟨_, _, _, rfl⟩ | ⟨b1, o1, c1, rfl, hb1, hc1⟩
      · simp at h0
      · rcases h2 with ⟨_, _, _, rfl⟩ | ⟨b2, o2, c2, rfl, hb2, hc2⟩
        · exact absurd hne h0
        · rw [← hne]
          exact eqInts_some b1 o1 c1 b2 o2 c2 xs.length xs ys w rfl hne.symm hb1 hc1 hb2 hc2 hx
  · have hd : decide (xs = ys) = false := by simp; intro e; exact hne (by rw [e])
    rw [hd]
    exact (eqInts_len v1 v2 xs ys w h1 h2 hne).mono fun e w' ⟨h1, h2⟩ => ⟨h1, h2 ▸ Below.refl _ _⟩

theorem heap_new_at (w : World) (o : Obj) (k : Nat) (h : k = w.heap.size) : (w.alloc o).heap[k]? = some o := by subst h; exact World.alloc_heap_new w o
theorem heap_old_at {w : World} {k : Nat} {x : Obj} (h : w.heap[k]? = some x) (o : Obj) : (w.alloc o).heap[k]? = some x := (Below.heap_alloc w o k (Array.getElem?_eq_some_iff.1 h).1).trans h
theorem two_set {w : World} {k : Nat} {x y a b : Value} {t : TypeId} (h : w.heap[k]? = some (.cells #[x, y] t (0, 0))) : ((w.setCell ⟨k, 0, none⟩ a).setCell ⟨k, 1, none⟩ b).heap[k]? = some (.cells #[a, b] t (0, 0)) := by
  have h1 := heap_setCell_same w k 0 _ _ a h
  exact heap_setCell_same _ k 1 _ _ b h1
theorem info27 : (Try.prog.info? 24).map (·.size) = some 2 := by kernel_rfl
theorem two_cells {w : World} {k : Nat} {x y : Value} {t : TypeId} (h : w.heap[k]? = some (.cells #[x, y] t (0, 0))) : w.cell? ⟨k, 0, none⟩ = some x ∧ w.cell? ⟨k, 1, none⟩ = some y ∧ w.frozen? ⟨k, 0, none⟩ = false ∧ w.frozen? ⟨k, 1, none⟩ = false :=
  ⟨by rw [cell_of_row w k 0 _ _ _ h]; rfl, by rw [cell_of_row w k 1 _ _ _ h]; rfl, frozen_of_row w k 0 _ _ h, frozen_of_row w k 1 _ _ h⟩


set_option maxHeartbeats 800000 in
theorem eqGraph_any (n m : Int) (v1 v2 : Value) (xs ys : List Int) (w : World) (h1 : Sl w v1 xs) (h2 : Sl w v2 ys) (hx : xs.length ≤ 9223372036854775807) :
    Calls Try.prog 6 #[.agg #[.int .i64 n, v1], .agg #[.int .i64 m, v2]] w fun e w' => e = .returned (.bool (decide (n = m) && decide (xs = ys))) ∧ Below w.heap.size w w' := by
  have H1 := Lib.hid h1; clear h1
  have H2 := Lib.hid h2; clear h2
  by_cases hn : n = m
  · subst hn
    have hb2 : Below w.heap.size w ((w.alloc (.cells #[.int .i64 n, v1] 24)).alloc (.cells #[.int .i64 n, v2] 24)) := ((Below.refl _ _).alloc (Nat.le_refl _) _).alloc (by simp) _
    have hc := eqInts_any v1 v2 xs ys _ (H1.out.below hb2) (H2.out.below hb2) hx
    have hnn : (n != n) = false := by simp
    have hd : (decide (n = n) && decide (xs = ys)) = decide (xs = ys) := by simp
    rw [hd]; clear hd
    generalize decide (xs = ys) = r at hc
    cases r
    all_goals
      go_enter Try.func6, Try.ntmps6
      go_wp2_with (go_at_call 21; refine hc.mono ?_; rintro e w1 ⟨rfl, hb1⟩)
      go_ret
      exact ⟨rfl, hb2.trans (hb1.mono (by simp; omega))⟩
  · have hnn : (n != m) = true := by simpa using hn
    have hd : (decide (n = m) && decide (xs = ys)) = false := by simp [hn]
    rw [hd]; clear hd hn
    go_enter Try.func6, Try.ntmps6
    go_wp2
    go_ret
    exact ⟨rfl, ((Below.refl _ _).alloc (Nat.le_refl _) _).alloc (by simp) _⟩

theorem eqGraph_same (n : Int) (v1 v2 : Value) (xs : List Int) (w : World) (h1 : Sl w v1 xs) (h2 : Sl w v2 xs) (hx : xs.length ≤ 9223372036854775807) :
    Calls Try.prog 6 #[.agg #[.int .i64 n, v1], .agg #[.int .i64 n, v2]] w fun e w' => e = .returned (.bool true) ∧ Below w.heap.size w w' := by
  have := eqGraph_any n n v1 v2 xs xs w h1 h2 hx
  simpa using this

/-- The slice u owns, from block B on, just the numbers of L. -/
def Own (w : World) (B : Nat) (u : Value) (L : List Int) : Prop := w.ownsRow B 2 1 u L.length (L.map (Value.int .i64))
theorem Own.form {w : World} {B : Nat} {u : Value} {L : List Int} (h : Own w B u L) : (u = .slice none 0 0 ∧ L = []) ∨ ∃ g cap, u = .slice (some ⟨g, 0, none⟩) L.length cap ∧ B ≤ g ∧ g < w.heap.size := by
  rcases h.2 with ⟨rfl, h0⟩ | ⟨g, cap, cur, rfl, hb, hg, _⟩
  · exact .inl ⟨rfl, List.eq_nil_of_length_eq_zero h0⟩
  · exact .inr ⟨g, cap, rfl, hb, (Array.getElem?_eq_some_iff.1 hg).1⟩
theorem map_at (L : List Int) (i : Nat) (h : i < L.length) : (L.map (Value.int .i64))[i]? = some (.int .i64 (el L i)) := by
  rw [List.getElem?_map, List.getElem?_eq_getElem h, el_lt h]; rfl
theorem Own.sl {w : World} {B : Nat} {u : Value} {L : List Int} (h : Own w B u L) : Sl w u L := by
  rcases h.form with ⟨rfl, rfl⟩ | ⟨g, cap, rfl, hb, hg⟩
  · exact .inl ⟨_, _, rfl, rfl⟩
  · refine .inr ⟨g, 0, cap, rfl, hg, fun i hi => ?_⟩
    rw [Nat.zero_add, World.ownsRow.cellAt h i (by omega)]
    exact map_at L i hi
theorem Own.kept {w w' : World} {B : Nat} {u : Value} {L : List Int} {row : Option Nat} (h : Own w B u L) (hg : w.grownBy w' row) (hne : u.ownBlock = none ∨ u.ownBlock ≠ row) : Own w' B u L := World.ownsRow.kept h hg hne
theorem grown_of_below {w w' : World} (h : Below w.heap.size w w') (row : Option Nat) : w.grownBy w' row := ⟨h.os, h.tape, h.output, h.size, fun k hk _ => h.block k hk⟩
theorem Own.below {w w' : World} {B : Nat} {u : Value} {L : List Int} (h : Own w B u L) (hb : Below w.heap.size w w') : Own w' B u L :=
  h.kept (grown_of_below hb none) (by cases u.ownBlock <;> simp)
theorem Own.base {w : World} {B B' : Nat} {u : Value} {L : List Int} (h : Own w B u L) (hb : B' ≤ B) : Own w B' u L :=
  ⟨h.1, h.2.imp id fun ⟨g, cap, cur, e, hB, r⟩ => ⟨g, cap, cur, e, Nat.le_trans hb hB, r⟩⟩
theorem Own.nil (w : World) (B : Nat) : Own w B (.slice none 0 0) [] := World.ownsRow_nil w B _ 1
theorem Own.of_blk {w : World} {B g : Nat} {L : List Int} (h : Blk w g L) (hB : B ≤ g) (hl : L.length ≤ maxLen) : Own w B (.slice (some ⟨g, 0, none⟩) L.length L.length) L :=
  ⟨by simp, .inr ⟨g, L.length, intsA L, rfl, hB, h, Nat.le_refl _, hl, by rw [intsA_size]; simp, by rw [List.take_of_length_le (by simp [intsA])]; simp [intsA]⟩⟩
theorem Own.ge {w : World} {B : Nat} {u : Value} {L : List Int} (h : Own w B u L) : ∀ k, u.ownBlock = some k → B ≤ k := fun k e => (World.ownsRow.lt h k e).1
theorem Own.lt {w : World} {B : Nat} {u : Value} {L : List Int} (h : Own w B u L) : ∀ k, u.ownBlock = some k → k < w.heap.size := fun k e => (World.ownsRow.lt h k e).2

/-- The marks from k on, n of them. -/
def markL (k : Int) (n : Nat) : List Int := (List.range n).map fun i : Nat => k + (i : Int)
theorem markL_length (k : Int) (n : Nat) : (markL k n).length = n := by simp [markL]
/-- The first j numbers overwritten by marks. -/
def mixL (k : Int) (L : List Int) (j : Nat) : List Int := markL k j ++ L.drop j
theorem mixL_length (k : Int) (L : List Int) (j : Nat) (h : j ≤ L.length) : (mixL k L j).length = L.length := by simp [mixL, markL_length]; omega
theorem mixL_zero (k : Int) (L : List Int) : mixL k L 0 = L := by simp [mixL, markL]
theorem mixL_all (k : Int) (L : List Int) : mixL k L L.length = markL k L.length := by simp [mixL]
theorem mixL_succ (k : Int) (L : List Int) (j : Nat) (h : j < L.length) : (mixL k L j).set j (k + (j : Int)) = mixL k L (j + 1) := by
  unfold mixL
  rw [List.set_append_right _ _ (by rw [markL_length]; omega), markL_length, Nat.sub_self]
  have e1 : markL k (j + 1) = markL k j ++ [k + (j : Int)] := by simp [markL, List.range_succ]
  rw [e1, List.append_assoc, List.drop_eq_getElem_cons h]
  rfl
theorem el_markL (k : Int) (n i : Nat) (h : i < n) : el (markL k n) i = k + (i : Int) := by simp [el, markL, h]

theorem grown_trans {w w1 w2 : World} {row : Option Nat} (h : w.grownBy w1 row) (k : w1.grownBy w2 row) : w.grownBy w2 row :=
  ⟨k.os.trans h.os, k.tape.trans h.tape, k.output.trans h.output, Nat.le_trans h.size k.size, fun i hi hne => (k.block i (Nat.lt_of_lt_of_le hi h.size) hne).trans (h.block i hi hne)⟩
theorem grown_set {w wr : World} {g : Nat} (h : w.grownBy wr (some g)) (g' j : Nat) (v : Value) (e : g' = g := by rfl) : w.grownBy (wr.setCell ⟨g', j, none⟩ v) (some g) := by
  subst e
  exact grown_trans h ⟨rfl, rfl, rfl, by simp, fun k _ hk => heap_setCell_other wr ⟨g', j, none⟩ k v (fun e => hk (by simp [e]))⟩

set_option maxHeartbeats 800000 in
theorem markInts_none (k : Int) (w : World) :
    Calls Try.prog 22 #[.slice none 0 0, .int .i64 k] w fun e w' => e = .returned (.int .i64 k) ∧ w = w' := by
  go_enter Try.func22, Try.ntmps22
  go_wp2
  go_loop [1, 5] (fun kk i => kk = .int .i64 k ∧ i = .int .i64 0) (fun _ _ => 0)
  case atStart => exact ⟨rfl, rfl⟩
  case round =>
    obtain ⟨rfl, rfl⟩ := hrel
    go_wp2
    go_ret
    exact ⟨rfl, rfl⟩

set_option maxHeartbeats 800000 in
theorem markInts_some (g cap B : Nat) (L : List Int) (k : Int) (w : World) (h : Own w B (.slice (some ⟨g, 0, none⟩) L.length cap) L) (hk0 : 0 ≤ k) (hk1 : k ≤ 9007199254740992) (hl : L.length ≤ 9007199254740992) :
    Calls Try.prog 22 #[.slice (some ⟨g, 0, none⟩) L.length cap, .int .i64 k] w fun e w' => e = .returned (.int .i64 (k + (L.length : Int))) ∧ Own w' B (.slice (some ⟨g, 0, none⟩) L.length cap) (markL k L.length) ∧ w.grownBy w' (some g) ∧ w'.heap.size = w.heap.size := by
  have H := Lib.hid h; clear h
  go_enter Try.func22, Try.ntmps22
  go_wp2
  go_loopw [1, 5] (fun kk i wr => ∃ j : Nat, j ≤ L.length ∧ i = .int .i64 j ∧ kk = .int .i64 (k + (j : Int)) ∧ Hid (Own wr B (.slice (some ⟨g, 0, none⟩) L.length cap) (mixL k L j)) ∧ w.grownBy wr (some g) ∧ Hid (wr.heap.size = w.heap.size)) (fun _ i _ => L.length - (intOf i).toNat)
  case atStart => exact ⟨0, Nat.zero_le _, rfl, by simp, by show Own _ _ _ _; rw [mixL_zero]; exact H.out, ⟨rfl, rfl, rfl, Nat.le_refl _, fun _ _ _ => rfl⟩, rfl⟩
  case round =>
    obtain ⟨j, hj, rfl, rfl, HO, hgr, HZ⟩ := hrel
    by_cases hlt : (j : Int) < L.length
    · have hjl : j < L.length := by omega
      have hml := mixL_length k L j hj
      have ho : wr.ownsRow B 2 1 (.slice (some ⟨g, 0, none⟩) L.length cap) L.length ((mixL k L j).map (Value.int .i64)) := by have := HO.out; unfold Own at this; rw [hml] at this; exact this
      have hc : wr.cell? ⟨g, j, none⟩ = some (.int .i64 (el (mixL k L j) j)) := (World.ownsRow.cellAt ho j (by omega)).trans (map_at _ j (by omega))
      have hf : wr.frozen? ⟨g, j, none⟩ = false := World.ownsRow.frozenAt ho j
      have HS : Hid (Own (wr.setCell ⟨g, j, none⟩ (.int .i64 (k + (j : Int)))) B (.slice (some ⟨g, 0, none⟩) L.length cap) (mixL k L (j + 1))) := by
        show Own _ _ _ _
        have := World.ownsRow.stored ho j (.int .i64 (k + (j : Int)))
        rw [← List.map_set, mixL_succ k L j hjl] at this
        unfold Own
        rw [mixL_length k L (j + 1) hjl]
        exact this.1
      have hgs : w.grownBy (wr.setCell ⟨g, j, none⟩ (.int .i64 (k + (j : Int)))) (some g) := grown_set hgr g j _
      clear hml ho
      have hj0 : (0 : Int) ≤ j := by omega
      go_wp2
      go_roundw
      case rel => exact ⟨j + 1, by omega, by go_num, by go_num, HS, hgs, by show _ = _; simp [HZ.out]⟩
      case measure => simp [intOf]; omega
    · have hjl : j = L.length := by omega
      subst hjl
      go_wp2
      go_ret
      exact ⟨rfl, by have := HO.out; rw [mixL_all] at this; exact this, hgr, HZ.out⟩

/-- What a call that writes marks into u leaves. -/
def Marked (w w' : World) (B : Nat) (u : Value) (L : List Int) : Prop := Own w' B u L ∧ w.grownBy w' u.ownBlock ∧ w'.heap.size = w.heap.size
theorem markInts_any (u : Value) (B : Nat) (L : List Int) (k : Int) (w : World) (h : Own w B u L) (hk0 : 0 ≤ k) (hk1 : k ≤ 9007199254740992) (hl : L.length ≤ 9007199254740992) :
    Calls Try.prog 22 #[u, .int .i64 k] w fun e w' => e = .returned (.int .i64 (k + (L.length : Int))) ∧ Marked w w' B u (markL k L.length) := by
  rcases h.form with ⟨rfl, rfl⟩ | ⟨g, cap, rfl, hb, hg⟩
  · refine (markInts_none k w).mono fun e w' ⟨he, hw⟩ => ?_
    subst hw
    exact ⟨by rw [he]; simp, Own.nil w B, ⟨rfl, rfl, rfl, Nat.le_refl _, fun _ _ _ => rfl⟩, rfl⟩
  · exact (markInts_some g cap B L k w h hk0 hk1 hl).mono fun e w' ⟨he, ho, hgr, hz⟩ => ⟨he, ho, hgr, hz⟩

set_option maxHeartbeats 800000 in
theorem heldInts_any (u : Value) (n : Nat) (k : Int) (w : World) (h : Sl w u (markL k n)) (hk0 : 0 ≤ k) (hk1 : k ≤ 9007199254740992) (hl : n ≤ 9007199254740992) :
    Calls Try.prog 23 #[u, .int .i64 k] w fun e w' => e = .returned (.int .i64 (k + (n : Int))) ∧ w = w' := by
  have HS := Lib.hid h
  have hf := slForm h
  rw [markL_length] at hf
  by_cases h0 : n = 0
  · subst h0
    rw [hf]; clear hf h HS
    go_enter Try.func23, Try.ntmps23
    go_wp2
    go_loop [1, 5] (fun kk i => kk = .int .i64 k ∧ i = .int .i64 0) (fun _ _ => 0)
    case atStart => exact ⟨rfl, rfl⟩
    case round =>
      obtain ⟨rfl, rfl⟩ := hrel
      go_wp2
      go_ret
      exact ⟨ret_int (by simp), rfl⟩
  · clear hf
    rcases h with ⟨_, _, _, hm⟩ | ⟨b, off, cap, rfl, hb, hc⟩
    · have := congrArg List.length hm; rw [markL_length] at this; simp at this; omega
    · have HC := Lib.hid hc; clear hc HS
      rw [markL_length]
      go_enter Try.func23, Try.ntmps23
      go_wp2
      go_loop [1, 5] (fun kk i => ∃ j : Nat, j ≤ n ∧ i = .int .i64 j ∧ kk = .int .i64 (k + (j : Int))) (fun _ i => n - (intOf i).toNat)
      case atStart => exact ⟨0, Nat.zero_le _, rfl, by simp⟩
      case round =>
        obtain ⟨j, hj, rfl, rfl⟩ := hrel
        by_cases hlt : (j : Int) < n
        · have hjn : j < n := by omega
          have hz : w.cell? ⟨b, off + j, none⟩ = some (.int .i64 (k + (j : Int))) := by rw [← el_markL k n j hjn]; exact HC.out j (by rw [markL_length]; exact hjn)
          have hne : ((k + (j : Int)) != (k + (j : Int))) = false := by simp
          have hj0 : (0 : Int) ≤ j := by omega
          go_wp2
          go_round
          case rel => exact ⟨j + 1, by omega, by go_num, by go_num⟩
          case measure => simp [intOf]; omega
        · have hjn : j = n := by omega
          subst hjn
          go_wp2
          go_ret
          exact ⟨rfl, rfl⟩

/-- Marks written into u; besides, blocks may be new. -/
def Touched (w w' : World) (B : Nat) (u : Value) (L : List Int) : Prop := Own w' B u L ∧ w.grownBy w' u.ownBlock

set_option maxHeartbeats 800000 in
theorem markGraph_any (n : Int) (u : Value) (B : Nat) (L : List Int) (k : Int) (w : World) (h : Own w B u L) (hk0 : 0 ≤ k) (hk1 : k ≤ 9007199254740992) (hl : L.length ≤ 9007199254740992) :
    Calls Try.prog 7 #[.agg #[.int .i64 n, u], .int .i64 k] w fun e w' => e = .returned (.int .i64 (k + (L.length : Int))) ∧ Touched w w' B u (markL k L.length) := by
  have D0 : Below w.heap.size w (w.alloc (.cells #[.int .i64 n, u] 24)) := (Below.refl _ _).alloc (Nat.le_refl _) _
  have hm := markInts_any u B L k (w.alloc (.cells #[.int .i64 n, u] 24)) (h.below D0) hk0 hk1 hl
  have hg0 := Lib.hid (World.grownBy_alloc w (.cells #[.int .i64 n, u] 24) u.ownBlock)
  clear h
  go_enter Try.func7, Try.ntmps7
  go_wp2_with (go_at_call 22; refine hm.mono ?_; rintro e w1 ⟨rfl, hM⟩; have HM := Lib.hid hM; clear hM)
  go_ret
  exact ⟨rfl, HM.out.1, grown_trans hg0.out HM.out.2.1⟩

set_option maxHeartbeats 800000 in
theorem heldGraph_any (m : Int) (u : Value) (n : Nat) (k : Int) (w : World) (h : Sl w u (markL k n)) (hk0 : 0 ≤ k) (hk1 : k ≤ 9007199254740992) (hl : n ≤ 9007199254740992) :
    Calls Try.prog 8 #[.agg #[.int .i64 m, u], .int .i64 k] w fun e w' => e = .returned (.int .i64 (k + (n : Int))) ∧ Below w.heap.size w w' := by
  have D0 : Below w.heap.size w (w.alloc (.cells #[.int .i64 m, u] 24)) := (Below.refl _ _).alloc (Nat.le_refl _) _
  have hm := heldInts_any u n k (w.alloc (.cells #[.int .i64 m, u] 24)) (h.below D0) hk0 hk1 hl
  clear h D0
  go_enter Try.func8, Try.ntmps8
  go_wp2_with (go_at_call 23; refine hm.mono ?_; rintro e w1 ⟨rfl, rfl⟩)
  go_ret
  exact ⟨rfl, (Below.refl _ _).alloc (Nat.le_refl _) _⟩

/-- A graph and a code, the rows in memory of their own from block B on. -/
def GRes (B : Nat) (N : Int) (L : List Int) (c : Int) (e : Ending) (w' : World) : Prop := ∃ u, e = .returned (.tuple #[.agg #[.int .i64 N, u], .int .i64 c]) ∧ Own w' B u L


set_option maxHeartbeats 400000 in
theorem specEmpty_any (len : Nat) (w : World) (hl : len ≤ 1048576) :
    Calls Try.prog 25 #[.int .i64 len] w fun e w' => e = .returned (.agg #[.int .i64 len, .slice (some ⟨w.heap.size + 1, 0, none⟩) len len]) ∧ Blk w' (w.heap.size + 1) (List.replicate len 0) ∧ Below w.heap.size w w' := by
  have hmk := run_mkInts len hl
  have hb2 : Below w.heap.size w ((w.alloc (.cells #[.int .i64 len, .slice (some ⟨w.heap.size + 1, 0, none⟩) len len] 24)).alloc (.cells (intsA (List.replicate len 0)) 2)) := ((Below.refl _ _).alloc (Nat.le_refl _) _).alloc (by simp) _
  have HN := Lib.hid (Blk.new (w.alloc (.cells #[.int .i64 len, .slice (some ⟨w.heap.size + 1, 0, none⟩) len len] 24)) (List.replicate len 0))
  have HR := Lib.hid (heap_old_at (heap_new_at w (.cells #[.int .i64 len, .slice (some ⟨w.heap.size + 1, 0, none⟩) len len] 24) w.heap.size rfl) (.cells (intsA (List.replicate len 0)) 2))
  go_enter Try.func25, Try.ntmps25
  go_wp2
  refine bodyPost_ret (v := .agg #[.int .i64 len, .slice (some ⟨w.heap.size + 1, 0, none⟩) len len]) (results_cell_row (p := 2) (ty := 24) rfl _ _ w.heap.size 24 _ (0, 0) _ rfl HR.out Try.underlying24 rfl (by exact info27)) rfl ⟨rfl, ?_, hb2⟩
  have h := HN.out
  rw [World.size_alloc] at h
  exact h

set_option maxHeartbeats 400000 in
theorem implEmpty_any (len : Nat) (w : World) (hl : len ≤ 1048576) :
    Calls Try.prog 33 #[.int .i64 len] w fun e w' => e = .returned (.agg #[.int .i64 len, .slice (some ⟨w.heap.size + 1, 0, none⟩) len len]) ∧ Blk w' (w.heap.size + 1) (List.replicate len 0) ∧ Below w.heap.size w w' := by
  have hmk := run_mkInts len hl
  have hb2 : Below w.heap.size w ((w.alloc (.cells #[.int .i64 len, .slice (some ⟨w.heap.size + 1, 0, none⟩) len len] 24)).alloc (.cells (intsA (List.replicate len 0)) 2)) := ((Below.refl _ _).alloc (Nat.le_refl _) _).alloc (by simp) _
  have HN := Lib.hid (Blk.new (w.alloc (.cells #[.int .i64 len, .slice (some ⟨w.heap.size + 1, 0, none⟩) len len] 24)) (List.replicate len 0))
  have HR := Lib.hid (heap_old_at (heap_new_at w (.cells #[.int .i64 len, .slice (some ⟨w.heap.size + 1, 0, none⟩) len len] 24) w.heap.size rfl) (.cells (intsA (List.replicate len 0)) 2))
  go_enter Try.func33, Try.ntmps33
  go_wp2
  refine bodyPost_ret (v := .agg #[.int .i64 len, .slice (some ⟨w.heap.size + 1, 0, none⟩) len len]) (results_cell_row (p := 2) (ty := 24) rfl _ _ w.heap.size 24 _ (0, 0) _ rfl HR.out Try.underlying24 rfl (by exact info27)) rfl ⟨rfl, ?_, hb2⟩
  have h := HN.out
  rw [World.size_alloc] at h
  exact h


theorem results_cell2 {P : Program} {fn : Func} {p u : Tmp} {ty : TypeId} (h : fn.results = #[.cell p ty, .tmp u]) (tmps : Array Value) (w : World) (g : Nat) (t : TypeId) (cs : Array Value) (fr : Nat × Nat) (d : TypeDesc)
    (hp : tmps.getD p undef = .pointer (some ⟨g, 0, none⟩)) (hg : w.heap[g]? = some (.cells cs t fr))
    (hu : P.underlying ty = some d) (hd : (match d with | .struct _ | .array _ _ => true | _ => false) = true) (hi : (P.info? ty).map (·.size) = some cs.size) :
    (results fn tmps).run P w = .ok (.tuple #[.agg cs, tmps.getD u undef]) w := by
  have hp' : tmps[p]?.getD undef = .pointer (some ⟨g, 0, none⟩) := by simpa using hp
  simp only [results, h]
  simp [hp', asAddr, run_loadVar_row w g t ty cs fr d hg hu hd hi]


end Go.Proofs.Ytonfcmngokmgpaa
