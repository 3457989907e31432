/-
  Blocks that hold a list of numbers; the laws' helpers that copy, size and compare lists and graphs.
-/
import Derived.Test.YtlodaeoikkjbkaaDoorRowArr
import Derived.OwnWalk
import Derived.BigQuiet
import Derived.Deep.QuietTactic
namespace Go.Proofs.YtlodaeoikkjbkaaDoor
set_option maxRecDepth 100000
open Go.RowKit

/-- The cells of a list of numbers. -/
def intsA (zs : List Int) : Array Value := (zs.map (Value.int .i64)).toArray
theorem intsA_size (zs : List Int) : (intsA zs).size = zs.length := by simp [intsA]
theorem intsA_at (zs : List Int) (i : Nat) (h : i < zs.length) : (intsA zs)[i]? = some (.int .i64 (el zs i)) := by simp [intsA, h, el_lt h]
/-- Block g holds just the numbers of zs. -/
def Blk (w : World) (g : Nat) (zs : List Int) : Prop := w.heap[g]? = some (.cells (intsA zs) 2 (0, 0))
theorem Blk.lt {w : World} {g : Nat} {zs : List Int} (h : Blk w g zs) : g < w.heap.size := (Array.getElem?_eq_some_iff.1 h).1
theorem Blk.cell {w : World} {g : Nat} {zs : List Int} (h : Blk w g zs) {i : Nat} (hi : i < zs.length) : w.cell? ⟨g, i, none⟩ = some (.int .i64 (el zs i)) := by
  rw [cell_of_row w g i _ _ _ h]; exact intsA_at zs i hi
theorem Blk.frozen {w : World} {g : Nat} {zs : List Int} (h : Blk w g zs) (i : Nat) : w.frozen? ⟨g, i, none⟩ = false := frozen_of_row w g i _ _ h
theorem Blk.new (w : World) (zs : List Int) : Blk (w.alloc (.cells (intsA zs) 2)) w.heap.size zs := World.alloc_heap_new w _
theorem Blk.alloc {w : World} {g : Nat} {zs : List Int} (h : Blk w g zs) (o : Obj) : Blk (w.alloc o) g zs := (Below.heap_alloc w o g h.lt).trans h
theorem Blk.below {B : Nat} {w w' : World} {g : Nat} {zs : List Int} (h : Blk w g zs) (hb : Below B w w') (hg : g < B) : Blk w' g zs := (hb.block g hg).trans h
theorem Blk.belowAll {w w' : World} {g : Nat} {zs : List Int} (h : Blk w g zs) (hb : Below w.heap.size w w') : Blk w' g zs := h.below hb h.lt
theorem Blk.other {w : World} {g : Nat} {zs : List Int} (h : Blk w g zs) {a : Addr} (ha : g ≠ a.block) (v : Value) : Blk (w.setCell a v) g zs := (Below.heap_setCell w a v g ha).trans h
theorem Blk.set {w : World} {g : Nat} {zs : List Int} (h : Blk w g zs) (j : Nat) (n : Int) : Blk (w.setCell ⟨g, j, none⟩ (.int .i64 n)) g (zs.set j n) := by
  unfold Blk at *
  rw [heap_setCell_same w g j _ _ _ h]
  congr 2
  unfold intsA
  rw [List.map_set, List.setIfInBounds_toArray]
theorem Blk.sl {w : World} {g : Nat} {zs : List Int} (h : Blk w g zs) (cap : Nat) : Sl w (.slice (some ⟨g, 0, none⟩) zs.length cap) zs :=
  .inr ⟨g, 0, cap, rfl, h.lt, fun i hi => by rw [Nat.zero_add]; exact h.cell hi⟩

theorem mk_info : (Tryd.prog.info? 2).map (fun i => (i.zero, i.size, i.bytes)) = some (some (.int .i64 0), 1, 8) := by kernel_rfl
set_option maxRecDepth 100000 in
theorem run_mkInts (len : Nat) (h : len ≤ 1048576) (w : World) : (Instr.makeSlice 22 (.int .i64 len) (.int .i64 len)).run Tryd.prog w = .ok (.slice (some ⟨w.heap.size, 0, none⟩) len len) (w.alloc (.cells (intsA (List.replicate len 0)) 2)) := by
  obtain ⟨i0, hi, hz0, hz1, hz2⟩ := info_parts mk_info
  rw [run_make w 22 2 i0 (.int .i64 0) Tryd.underlying22 hi hz0 .i64 .i64 len len (by omega) (by omega) (by rw [hz2]; omega) (by omega)]
  simp only [Int.toNat_natCast, hz1, Nat.mul_one]
  congr 2
  unfold intsA madeCells
  congr 1
  apply Array.ext_getElem?
  intro j
  by_cases hj : j < len
  · simp [hj, Value.cells, Nat.mod_one]
  · rw [Array.getElem?_eq_none (by simp; omega), Array.getElem?_eq_none (by simp; omega)]

set_option maxHeartbeats 400000 in
theorem szInts_any (v : Value) (zs : List Int) (left : Int) (w : World) (hs : Sl w v zs) (h0 : 0 ≤ left) (h1 : left ≤ 1048576) (hl : zs.length ≤ 9223372036854775807) :
    Calls Tryd.prog 33 #[v, .int .i64 left] w fun e w' => e = .returned (.int .i64 (if left < zs.length then -1 else left - zs.length)) ∧ w = w' := by
  have hf := slForm hs
  rw [hf]; clear hf hs
  by_cases hlt : left < zs.length
  · rw [if_pos hlt]
    go_enter Tryd.func33, Tryd.ntmps33
    go_wp2
    go_ret
    exact ⟨rfl, rfl⟩
  · rw [if_neg hlt]
    go_enter Tryd.func33, Tryd.ntmps33
    go_wp2
    go_ret
    exact ⟨rfl, rfl⟩

/-- The first k numbers copied. -/
def part (zs : List Int) (k : Nat) : List Int := zs.take k ++ List.replicate (zs.length - k) 0
theorem part_length (zs : List Int) (k : Nat) (h : k ≤ zs.length) : (part zs k).length = zs.length := by simp [part]; omega
theorem part_succ (zs : List Int) (k : Nat) (h : k < zs.length) : (part zs k).set k (el zs k) = part zs (k + 1) := by
  apply List.ext_getElem?
  intro j
  have hm : min k zs.length = k := by omega
  have hm' : min (k + 1) zs.length = k + 1 := by omega
  by_cases hj : j = k
  · subst hj
    rw [List.getElem?_set_self (by rw [part_length _ _ (by omega)]; exact h), part, List.getElem?_append_left (by rw [List.length_take, hm']; omega), el_lt h]
    simp [h]
  · rw [List.getElem?_set_ne (fun e => hj e.symm)]
    by_cases hlt : j < k
    · rw [part, part, List.getElem?_append_left (by rw [List.length_take, hm]; exact hlt), List.getElem?_append_left (by rw [List.length_take, hm']; omega)]
      simp [hlt, Nat.lt_succ_of_lt hlt]
    · rw [part, part, List.getElem?_append_right (by rw [List.length_take, hm]; omega), List.getElem?_append_right (by rw [List.length_take, hm']; omega)]
      simp only [List.length_take, hm, hm', List.getElem?_replicate]
      by_cases hz : j < zs.length
      · rw [if_pos (by omega), if_pos (by omega)]
      · rw [if_neg (by omega), if_neg (by omega)]
theorem part_all (zs : List Int) : part zs zs.length = zs := by simp [part]
theorem part_zero (zs : List Int) : part zs 0 = List.replicate zs.length 0 := by simp [part]

set_option maxHeartbeats 800000 in
theorem toInts_nil (a : Option Addr) (c : Nat) (w : World) :
    Calls Tryd.prog 20 #[.slice a 0 c] w fun e w' => e = .returned (.slice (some ⟨w.heap.size, 0, none⟩) 0 0) ∧ Blk w' w.heap.size [] ∧ Below w.heap.size w w' := by
  have hmk := fun W => run_mkInts 0 (by omega) W
  simp only [List.replicate_zero, Int.natCast_zero] at hmk
  go_enter Tryd.func20, Tryd.ntmps20
  go_wp2
  clear hmk
  go_loopw [4] (fun i wr => i = .int .i64 0 ∧ Blk wr w.heap.size [] ∧ Below w.heap.size w wr) (fun i _ => 0)
  case atStart => exact ⟨rfl, Blk.new w _, (Below.refl _ _).alloc (Nat.le_refl _) _⟩
  case round =>
    obtain ⟨rfl, hB, hb⟩ := hrel
    have HB := Lib.hid hB; clear hB
    go_wp2
    go_ret
    exact ⟨rfl, HB.out, hb⟩

set_option maxHeartbeats 800000 in
theorem toInts_some (b off cap : Nat) (zs : List Int) (w : World) (hbl : b < w.heap.size) (hc : Cells w b off zs) (hl : zs.length ≤ 1048576) :
    Calls Tryd.prog 20 #[.slice (some ⟨b, off, none⟩) zs.length cap] w fun e w' => e = .returned (.slice (some ⟨w.heap.size, 0, none⟩) zs.length zs.length) ∧ Blk w' w.heap.size zs ∧ Below w.heap.size w w' := by
  have hmk := run_mkInts zs.length hl
  have HC := Lib.hid hc; clear hc
  go_enter Tryd.func20, Tryd.ntmps20
  go_wp2
  clear hmk
  go_loopw [4] (fun i wr => ∃ k : Nat, k ≤ zs.length ∧ i = .int .i64 k ∧ Blk wr w.heap.size (part zs k) ∧ Below w.heap.size w wr) (fun i _ => zs.length - (intOf i).toNat)
  case atStart => exact ⟨0, Nat.zero_le _, rfl, by rw [part_zero]; exact Blk.new w _, (Below.refl _ _).alloc (Nat.le_refl _) _⟩
  case round =>
    obtain ⟨k, hk, rfl, hB, hb⟩ := hrel
    by_cases hlt : (k : Int) < zs.length
    · have hki : k < zs.length := by omega
      have hpl := part_length zs k hk
      have HB := Lib.hid hB
      have hcell : wr.cell? ⟨w.heap.size, k, none⟩ = some (.int .i64 (el (part zs k) k)) := hB.cell (by omega)
      have hfr : wr.frozen? ⟨w.heap.size, k, none⟩ = false := hB.frozen k
      have hz : wr.cell? ⟨b, off + k, none⟩ = some (.int .i64 (el zs k)) := (hb.cell (p := ⟨b, off + k, none⟩) hbl).trans (HC.out k hki)
      have HS : Hid (Blk (wr.setCell ⟨w.heap.size, k, none⟩ (.int .i64 (el zs k))) w.heap.size (part zs (k + 1))) := by show Blk _ _ _; rw [← part_succ zs k hki]; exact hB.set k _
      clear hB hpl
      have hk0 : (0 : Int) ≤ k := by omega
      go_wp2
      go_roundw
      case rel => exact ⟨k + 1, by omega, by go_num, HS.out, hb.setCell (p := ⟨w.heap.size, k, none⟩) (Nat.le_refl _) _⟩
      case measure => simp [intOf]; omega
    · have hkl : k = zs.length := by omega
      subst hkl
      have HB := Lib.hid hB; clear hB
      go_wp2
      go_ret
      exact ⟨rfl, by have := HB.out; rw [part_all] at this; exact this, hb⟩

theorem toInts_any (v : Value) (zs : List Int) (w : World) (hs : Sl w v zs) (hl : zs.length ≤ 1048576) :
    Calls Tryd.prog 20 #[v] w fun e w' => e = .returned (.slice (some ⟨w.heap.size, 0, none⟩) zs.length zs.length) ∧ Blk w' w.heap.size zs ∧ Below w.heap.size w w' := by
  rcases hs with ⟨a, c, rfl, rfl⟩ | ⟨b, off, cap, rfl, hbl, hc⟩
  · exact toInts_nil a c w
  · exact toInts_some b off cap zs w hbl hc hl

theorem take_eq_succ (xs ys : List Int) (k : Nat) (hx : k < xs.length) (hy : k < ys.length) (h : xs.take k = ys.take k) (he : el xs k = el ys k) : xs.take (k + 1) = ys.take (k + 1) := by
  rw [List.take_succ_eq_append_getElem hx, List.take_succ_eq_append_getElem hy, h, ← el_lt hx, ← el_lt hy, he]

set_option maxHeartbeats 800000 in
theorem eqInts_len (v1 v2 : Value) (xs ys : List Int) (w : World) (h1 : Sl w v1 xs) (h2 : Sl w v2 ys) (hne : xs.length ≠ ys.length) :
    Calls Tryd.prog 14 #[v1, v2] w fun e w' => e = .returned (.bool false) ∧ w = w' := by
  have f1 := slForm h1
  have f2 := slForm h2
  rw [f1, f2]; clear f1 f2 h1 h2
  have hb : ((xs.length : Int) != ys.length) = true := by rw [bne_iff_ne]; omega
  go_enter Tryd.func14, Tryd.ntmps14
  go_wp2
  go_ret
  exact ⟨rfl, rfl⟩

set_option maxHeartbeats 800000 in
theorem eqInts_zero (v1 v2 : Value) (w : World) (h1 : Sl w v1 []) (h2 : Sl w v2 []) :
    Calls Tryd.prog 14 #[v1, v2] w fun e w' => e = .returned (.bool true) ∧ Below w.heap.size w w' := by
  have f1 := slForm h1
  have f2 := slForm h2
  rw [f1, f2]; clear f1 f2 h1 h2
  go_enter Tryd.func14, Tryd.ntmps14
  go_wp2
  go_loopw [5] (fun i wr => i = .int .i64 0 ∧ Below w.heap.size w wr) (fun i _ => 0)
  case atStart => exact ⟨rfl, Below.refl _ _⟩
  case round =>
    obtain ⟨rfl, hb⟩ := hrel
    go_wp2
    go_ret
    exact ⟨rfl, hb⟩

set_option maxHeartbeats 800000 in
theorem eqInts_some (b1 o1 c1 b2 o2 c2 n : Nat) (xs ys : List Int) (w : World) (hn1 : xs.length = n) (hn2 : ys.length = n) (hb1 : b1 < w.heap.size) (hc1 : Cells w b1 o1 xs) (hb2 : b2 < w.heap.size) (hc2 : Cells w b2 o2 ys) (hl : n ≤ 9223372036854775807) :
    Calls Tryd.prog 14 #[.slice (some ⟨b1, o1, none⟩) n c1, .slice (some ⟨b2, o2, none⟩) n c2] w fun e w' => e = .returned (.bool (decide (xs = ys))) ∧ Below w.heap.size w w' := by
  have HC1 := Lib.hid hc1; clear hc1
  have HC2 := Lib.hid hc2; clear hc2
  have HN1 := Lib.hid hn1; clear hn1
  have HN2 := Lib.hid hn2; clear hn2
  go_enter Tryd.func14, Tryd.ntmps14
  go_wp2
  go_loopw [5] (fun i wr => ∃ k : Nat, k ≤ n ∧ i = .int .i64 k ∧ Hid (xs.take k = ys.take k) ∧ Below w.heap.size w wr) (fun i _ => n - (intOf i).toNat)
  case atStart => exact ⟨0, Nat.zero_le _, rfl, rfl, Below.refl _ _⟩
  case round =>
    obtain ⟨k, hk, rfl, HE, hb⟩ := hrel
    by_cases hlt : (k : Int) < n
    · have hk1 : k < xs.length := by have := HN1.out; omega
      have hk2 : k < ys.length := by have := HN2.out; omega
      have hz1 : wr.cell? ⟨b1, o1 + k, none⟩ = some (.int .i64 (el xs k)) := (hb.cell (p := ⟨b1, o1 + k, none⟩) hb1).trans (HC1.out k hk1)
      have hz2 : wr.cell? ⟨b2, o2 + k, none⟩ = some (.int .i64 (el ys k)) := (hb.cell (p := ⟨b2, o2 + k, none⟩) hb2).trans (HC2.out k hk2)
      have hk0 : (0 : Int) ≤ k := by omega
      by_cases he : el xs k = el ys k
      · have HO : Hid (xs.take (k + 1) = ys.take (k + 1)) := take_eq_succ xs ys k hk1 hk2 HE.out he
        have hne : (el xs k != el ys k) = false := by simpa using he
        clear he
        go_wp2
        go_quiet (fail)
        go_wp2
        go_roundw
        case rel => exact ⟨k + 1, by omega, by go_num, HO, drewN_below hb _⟩
        case measure => simp [intOf]; omega
      · have hne : (el xs k != el ys k) = true := by simpa using he
        have hd : decide (xs = ys) = false := by simp; intro e; exact he (by rw [e])
        have HD := Lib.hid hd; clear hd he
        go_wp2
        go_quiet (fail)
        go_wp2
        go_ret
        exact ⟨ret_bool HD.out.symm, drewN_below hb _⟩
    · have hkl : k = n := by omega
      subst hkl
      have hd : decide (xs = ys) = true := by
        have h1 := HE.out
        rw [List.take_of_length_le (by have := HN1.out; omega), List.take_of_length_le (by have := HN2.out; omega)] at h1
        simpa using h1
      have HD := Lib.hid hd; clear hd
      go_wp2
      go_ret
      exact ⟨ret_bool HD.out.symm, hb⟩

theorem eqInts_any (v1 v2 : Value) (xs ys : List Int) (w : World) (h1 : Sl w v1 xs) (h2 : Sl w v2 ys) (hx : xs.length ≤ 9223372036854775807) :
    Calls Tryd.prog 14 #[v1, v2] w fun e w' => e = .returned (.bool (decide (xs = ys))) ∧ Below w.heap.size w w' := by
  by_cases hne : xs.length = ys.length
  · by_cases h0 : xs.length = 0
    · obtain rfl := List.eq_nil_of_length_eq_zero h0
      obtain rfl := List.eq_nil_of_length_eq_zero (hne.symm.trans h0)
      exact eqInts_zero v1 v2 w h1 h2
    · rcases h1 with ⟨_, _, _, rfl⟩ | ⟨b1, o1, c1, rfl, hb1, hc1⟩
      · simp at h0
      · rcases h2 with ⟨_, _, _, rfl⟩ | ⟨b2, o2, c2, rfl, hb2, hc2⟩
        · exact absurd hne h0
        · rw [← hne]
          exact eqInts_some b1 o1 c1 b2 o2 c2 xs.length xs ys w rfl hne.symm hb1 hc1 hb2 hc2 hx
  · have hd : decide (xs = ys) = false := by simp; intro e; exact hne (by rw [e])
    rw [hd]
    exact (eqInts_len v1 v2 xs ys w h1 h2 hne).mono fun e w' ⟨h1, h2⟩ => ⟨h1, h2 ▸ Below.refl _ _⟩

theorem heap_new_at (w : World) (o : Obj) (k : Nat) (h : k = w.heap.size) : (w.alloc o).heap[k]? = some o := by subst h; exact World.alloc_heap_new w o
theorem heap_old_at {w : World} {k : Nat} {x : Obj} (h : w.heap[k]? = some x) (o : Obj) : (w.alloc o).heap[k]? = some x := (Below.heap_alloc w o k (Array.getElem?_eq_some_iff.1 h).1).trans h
theorem two_set {w : World} {k : Nat} {x y a b : Value} {t : TypeId} (h : w.heap[k]? = some (.cells #[x, y] t (0, 0))) : ((w.setCell ⟨k, 0, none⟩ a).setCell ⟨k, 1, none⟩ b).heap[k]? = some (.cells #[a, b] t (0, 0)) := by
  have h1 := heap_setCell_same w k 0 _ _ a h
  exact heap_setCell_same _ k 1 _ _ b h1
theorem info27 : (Tryd.prog.info? 28).map (·.size) = some 2 := by kernel_rfl
theorem two_cells {w : World} {k : Nat} {x y : Value} {t : TypeId} (h : w.heap[k]? = some (.cells #[x, y] t (0, 0))) : w.cell? ⟨k, 0, none⟩ = some x ∧ w.cell? ⟨k, 1, none⟩ = some y ∧ w.frozen? ⟨k, 0, none⟩ = false ∧ w.frozen? ⟨k, 1, none⟩ = false :=
  ⟨by rw [cell_of_row w k 0 _ _ _ h]; rfl, by rw [cell_of_row w k 1 _ _ _ h]; rfl, frozen_of_row w k 0 _ _ h, frozen_of_row w k 1 _ _ h⟩

set_option maxHeartbeats 800000 in
theorem szGraph_any (n : Int) (v : Value) (zs : List Int) (left : Int) (w : World) (hs : Sl w v zs) (h0 : 0 ≤ left) (h1 : left ≤ 1048576) (hl : zs.length ≤ 9223372036854775807) :
    Calls Tryd.prog 10 #[.agg #[.int .i64 n, v], .int .i64 left] w fun e w' => e = .returned (.int .i64 (if left < zs.length then -1 else left - zs.length)) ∧ Below w.heap.size w w' := by
  have HS := Lib.hid hs; clear hs
  have hb1 : Below w.heap.size w (w.alloc (.cells #[.int .i64 n, v] 24)) := (Below.refl _ _).alloc (Nat.le_refl _) _
  by_cases hlt : left < zs.length
  · have hi : (if left < (zs.length : Int) then (-1 : Int) else left - zs.length) = -1 := if_pos hlt
    rw [hi]
    have hc := szInts_any v zs left (w.alloc (.cells #[.int .i64 n, v] 24)) (HS.out.below hb1) h0 h1 hl
    rw [hi] at hc
    clear hi
    go_enter Tryd.func10, Tryd.ntmps10
    go_wp2_with (go_at_call 33; refine hc.mono ?_; rintro e w' ⟨rfl, rfl⟩)
    go_ret
    exact ⟨rfl, (Below.refl _ _).alloc (Nat.le_refl _) _⟩
  · have hi : (if left < (zs.length : Int) then (-1 : Int) else left - zs.length) = left - zs.length := if_neg hlt
    rw [hi]
    have hc := szInts_any v zs left (w.alloc (.cells #[.int .i64 n, v] 24)) (HS.out.below hb1) h0 h1 hl
    rw [hi] at hc
    clear hi
    go_enter Tryd.func10, Tryd.ntmps10
    go_wp2_with (go_at_call 33; refine hc.mono ?_; rintro e w' ⟨rfl, rfl⟩)
    go_ret
    exact ⟨rfl, (Below.refl _ _).alloc (Nat.le_refl _) _⟩

set_option maxHeartbeats 800000 in
theorem toGraph_any (n : Int) (v : Value) (zs : List Int) (w : World) (hs : Sl w v zs) (hl : zs.length ≤ 1048576) :
    Calls Tryd.prog 12 #[.agg #[.int .i64 n, v]] w fun e w' => e = .returned (.agg #[.int .i64 n, .slice (some ⟨w.heap.size + 3, 0, none⟩) zs.length zs.length]) ∧ Blk w' (w.heap.size + 3) zs ∧ Below w.heap.size w w' := by
  have HS := Lib.hid hs; clear hs
  go_enter Tryd.func12, Tryd.ntmps12
  have hb3 : Below w.heap.size w (((w.alloc (.cells #[.int .i64 n, v] 24)).alloc (.cells #[.int .i64 0, .slice none 0 0] 28)).alloc (.cells #[.int .i64 n, .slice none 0 0] 28)) := (((Below.refl _ _).alloc (Nat.le_refl _) _).alloc (by simp) _).alloc (by simp; omega) _
  have hcon := toInts_any v zs _ (HS.out.below hb3) hl
  simp only [World.size_alloc] at hcon
  have HH2 := Lib.hid (heap_new_at ((w.alloc (.cells #[.int .i64 n, v] 24)).alloc (.cells #[.int .i64 0, .slice none 0 0] 28)) (.cells #[.int .i64 n, .slice none 0 0] 28) (w.heap.size + 1 + 1) (by simp))
  have HH1 := Lib.hid (heap_old_at (heap_new_at (w.alloc (.cells #[.int .i64 n, v] 24)) (.cells #[.int .i64 0, .slice none 0 0] 28) (w.heap.size + 1) (by simp)) (.cells #[.int .i64 n, .slice none 0 0] 28))
  go_wp2_with (go_at_call 20; go_must (refine hcon.mono ?_; rintro e w1 ⟨rfl, hB1, hb1⟩; have HB1 := Lib.hid hB1; obtain ⟨a0, a1, fa0, fa1⟩ := two_cells ((hb1.block (w.heap.size + 1 + 1) (by omega)).trans HH2.out); obtain ⟨r0, r1, g0, g1⟩ := two_cells ((hb1.block (w.heap.size + 1) (by omega)).trans HH1.out); have RB := Lib.hid ((hb1.block (w.heap.size + 1) (by omega)).trans HH1.out); have hz := hB1.lt; have hb1' := hb3.trans (hb1.mono (by omega)); clear hB1 hb1))
  have hfin := two_set (a := .int .i64 n) (b := .slice (some ⟨w.heap.size + 1 + 1 + 1, 0, none⟩) zs.length zs.length) ((Below.heap_setCell w1 ⟨w.heap.size + 1 + 1, 1, none⟩ (.slice (some ⟨w.heap.size + 1 + 1 + 1, 0, none⟩) zs.length zs.length) (w.heap.size + 1) (by simp)).trans RB.out)
  refine bodyPost_ret (v := .agg #[.int .i64 n, .slice (some ⟨w.heap.size + 3, 0, none⟩) zs.length zs.length]) (results_cell_row (p := 2) (ty := 28) rfl _ _ (w.heap.size + 1) 28 _ (0, 0) _ rfl hfin Tryd.underlying28 rfl (by exact info27)) rfl ⟨rfl, ?_, ?_⟩
  · exact ((HB1.out.other (by simp) _).other (by simp; omega) _).other (by simp; omega) _
  · exact ((hb1'.setCell (p := ⟨w.heap.size + 1 + 1, 1, none⟩) (by simp; omega) _).setCell (p := ⟨w.heap.size + 1, 0, none⟩) (by simp) _).setCell (p := ⟨w.heap.size + 1, 1, none⟩) (by simp) _

set_option maxHeartbeats 800000 in
theorem eqGraph_any (n m : Int) (v1 v2 : Value) (xs ys : List Int) (w : World) (h1 : Sl w v1 xs) (h2 : Sl w v2 ys) (hx : xs.length ≤ 9223372036854775807) :
    Calls Tryd.prog 15 #[.agg #[.int .i64 n, v1], .agg #[.int .i64 m, v2]] w fun e w' => e = .returned (.bool (decide (n = m) && decide (xs = ys))) ∧ Below w.heap.size w w' := by
  have H1 := Lib.hid h1; clear h1
  have H2 := Lib.hid h2; clear h2
  by_cases hn : n = m
  · subst hn
    have hb2 : Below w.heap.size w ((w.alloc (.cells #[.int .i64 n, v1] 28)).alloc (.cells #[.int .i64 n, v2] 28)) := ((Below.refl _ _).alloc (Nat.le_refl _) _).alloc (by simp) _
    have hc := eqInts_any v1 v2 xs ys _ (H1.out.below hb2) (H2.out.below hb2) hx
    have hnn : (n != n) = false := by simp
    have hd : (decide (n = n) && decide (xs = ys)) = decide (xs = ys) := by simp
    rw [hd]; clear hd
    generalize decide (xs = ys) = r at hc
    cases r
    all_goals
      go_enter Tryd.func15, Tryd.ntmps15
      go_wp2_with (go_at_call 14; refine hc.mono ?_; rintro e w1 ⟨rfl, hb1⟩)
      go_ret
      exact ⟨rfl, hb2.trans (hb1.mono (by simp; omega))⟩
  · have hnn : (n != m) = true := by simpa using hn
    have hd : (decide (n = m) && decide (xs = ys)) = false := by simp [hn]
    rw [hd]; clear hd hn
    go_enter Tryd.func15, Tryd.ntmps15
    go_wp2
    go_ret
    exact ⟨rfl, ((Below.refl _ _).alloc (Nat.le_refl _) _).alloc (by simp) _⟩

theorem eqGraph_same (n : Int) (v1 v2 : Value) (xs : List Int) (w : World) (h1 : Sl w v1 xs) (h2 : Sl w v2 xs) (hx : xs.length ≤ 9223372036854775807) :
    Calls Tryd.prog 15 #[.agg #[.int .i64 n, v1], .agg #[.int .i64 n, v2]] w fun e w' => e = .returned (.bool true) ∧ Below w.heap.size w w' := by
  have := eqGraph_any n n v1 v2 xs xs w h1 h2 hx
  simpa using this
end Go.Proofs.YtlodaeoikkjbkaaDoor
