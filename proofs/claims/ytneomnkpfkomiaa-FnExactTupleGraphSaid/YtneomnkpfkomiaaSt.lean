/-
  Lists of lists copied, compared, marked. (A plain seat.)
-/
import Derived.Test.YtneomnkpfkomiaaSs
namespace Go.Proofs.Ytneomnkpfkomiaa
open Go.RowKit

def eN (us : List Nat) (i : Nat) : Nat := us.getD i 0
theorem eN_left (us vs : List Nat) (i : Nat) (h : i < us.length) : eN (us ++ vs) i = eN us i := by unfold eN; rw [List.getD_eq_getElem?_getD, List.getD_eq_getElem?_getD, List.getElem?_append_left h]
theorem eN_end (us : List Nat) (g : Nat) : eN (us ++ [g]) us.length = g := by simp [eN]
/-- The cell of list i: where it lies, if it has been laid. -/
def ptrV (us : List Nat) (Ls : List (List Int)) (i : Nat) : Value := if i < us.length then .slice (some ⟨eN us i, 0, none⟩) (elS Ls i).length (elS Ls i).length else .slice none 0 0
def ptrsA (us : List Nat) (Ls : List (List Int)) : Array Value := ((List.range Ls.length).map (ptrV us Ls)).toArray
theorem ptrsA_at (us : List Nat) (Ls : List (List Int)) (i : Nat) (h : i < Ls.length) : (ptrsA us Ls)[i]? = some (ptrV us Ls i) := by simp [ptrsA, h]
theorem ptrsA_nil (Ls : List (List Int)) : ptrsA [] Ls = (List.replicate Ls.length (Value.slice none 0 0)).toArray := by
  unfold ptrsA
  congr 1
  rw [List.eq_replicate_iff]
  refine ⟨by simp, fun x hx => ?_⟩
  obtain ⟨i, _, rfl⟩ := List.mem_map.1 hx
  simp [ptrV]
theorem ptrsA_snoc (us : List Nat) (Ls : List (List Int)) (g : Nat) (h : us.length < Ls.length) :
    (ptrsA us Ls).setIfInBounds us.length (.slice (some ⟨g, 0, none⟩) (elS Ls us.length).length (elS Ls us.length).length) = ptrsA (us ++ [g]) Ls := by
  unfold ptrsA
  rw [List.setIfInBounds_toArray]
  congr 1
  apply List.ext_getElem?
  intro j
  by_cases hj : j = us.length
  · subst hj
    rw [List.getElem?_set_self (by simpa using h)]
    simp [h, ptrV, eN_end]
  · rw [List.getElem?_set_ne (fun e => hj e.symm)]
    by_cases hjl : j < Ls.length
    · simp only [List.getElem?_map, List.getElem?_range hjl, Option.map_some]
      congr 1
      unfold ptrV
      rw [List.length_append, List.length_singleton]
      by_cases h2 : j < us.length
      · rw [if_pos h2, if_pos (by omega), eN_left _ _ _ h2]
      · rw [if_neg h2, if_neg (by omega)]
    · rw [List.getElem?_eq_none (by simp; omega), List.getElem?_eq_none (by simp; omega)]

/-- Block g holds the lists that have been laid at us, the other ones nil. -/
def CB (w : World) (g : Nat) (us : List Nat) (Ls : List (List Int)) : Prop :=
  w.heap[g]? = some (.cells (ptrsA us Ls) 22 (0, 0)) ∧ (∀ i, i < us.length → g < eN us i ∧ Blk w (eN us i) (elS Ls i)) ∧ ∀ i j, i < j → j < us.length → eN us i < eN us j
theorem CB.lt {w : World} {g : Nat} {us : List Nat} {Ls : List (List Int)} (h : CB w g us Ls) : g < w.heap.size := (Array.getElem?_eq_some_iff.1 h.1).1
theorem CB.cell {w : World} {g : Nat} {us : List Nat} {Ls : List (List Int)} (h : CB w g us Ls) {i : Nat} (hi : i < Ls.length) : w.cell? ⟨g, i, none⟩ = some (ptrV us Ls i) := by
  rw [cell_of_row w g i _ _ _ h.1]; exact ptrsA_at us Ls i hi
theorem CB.frozen {w : World} {g : Nat} {us : List Nat} {Ls : List (List Int)} (h : CB w g us Ls) (i : Nat) : w.frozen? ⟨g, i, none⟩ = false := frozen_of_row w g i _ _ h.1
theorem CB.below {w w' : World} {g : Nat} {us : List Nat} {Ls : List (List Int)} (h : CB w g us Ls) (hb : Below w.heap.size w w') : CB w' g us Ls :=
  ⟨(hb.block g h.lt).trans h.1, fun i hi => ⟨(h.2.1 i hi).1, (h.2.1 i hi).2.belowAll hb⟩, h.2.2⟩
theorem CB.ss {w : World} {g : Nat} {us : List Nat} {Ls : List (List Int)} (h : CB w g us Ls) (hl : us.length = Ls.length) (cap : Nat) : SS w (.slice (some ⟨g, 0, none⟩) Ls.length cap) Ls :=
  .inr ⟨g, 0, cap, ptrV us Ls, rfl, h.lt, fun i hi => ⟨by rw [Nat.zero_add]; exact h.cell hi, by
    unfold ptrV
    rw [if_pos (by omega)]
    exact (h.2.1 i (by omega)).2.sl _⟩⟩
theorem CB.new (w : World) (Ls : List (List Int)) : CB (w.alloc (.cells (ptrsA [] Ls) 22)) w.heap.size [] Ls := ⟨World.alloc_heap_new w _, fun i h => by simp at h, fun i j _ h => by simp at h⟩
theorem CB.snoc {w : World} {g : Nat} {us : List Nat} {Ls : List (List Int)} {n : Nat} (h : CB w g us Ls) (hn : Blk w n (elS Ls us.length)) (hlt : us.length < Ls.length) (hg : g < n) (hall : ∀ i, i < us.length → eN us i < n) :
    CB (w.setCell ⟨g, us.length, none⟩ (.slice (some ⟨n, 0, none⟩) (elS Ls us.length).length (elS Ls us.length).length)) g (us ++ [n]) Ls := by
  refine ⟨?_, fun i hi => ?_, fun i j hij hj => ?_⟩
  · rw [heap_setCell_same w g us.length _ _ _ h.1, ptrsA_snoc us Ls n hlt]
  · rw [List.length_append, List.length_singleton] at hi
    by_cases e : i < us.length
    · rw [eN_left _ _ _ e]
      obtain ⟨h1, h2⟩ := h.2.1 i e
      exact ⟨h1, h2.other (by simp; omega) _⟩
    · obtain rfl : i = us.length := by omega
      rw [eN_end]
      exact ⟨hg, hn.other (by simp; omega) _⟩
  · rw [List.length_append, List.length_singleton] at hj
    by_cases e : j < us.length
    · rw [eN_left _ _ _ e, eN_left _ _ _ (by omega)]; exact h.2.2 i j hij e
    · obtain rfl : j = us.length := by omega
      rw [eN_end, eN_left _ _ _ hij]; exact hall i hij

theorem mkS_info : (Try.prog.info? 22).map (fun i => (i.zero, i.size, i.bytes)) = some (some (.slice none 0 0), 1, 24) := by kernel_rfl
set_option maxRecDepth 100000 in
theorem run_mkSlices (Ls : List (List Int)) (h : Ls.length ≤ 1048576) (w : World) : (Instr.makeSlice 35 (.int .i64 Ls.length) (.int .i64 Ls.length)).run Try.prog w = .ok (.slice (some ⟨w.heap.size, 0, none⟩) Ls.length Ls.length) (w.alloc (.cells (ptrsA [] Ls) 22)) := by
  obtain ⟨i0, hi, hz0, hz1, hz2⟩ := info_parts mkS_info
  rw [run_make w 35 22 i0 (.slice none 0 0) Try.underlying35 hi hz0 .i64 .i64 Ls.length Ls.length (by omega) (by omega) (by rw [hz2]; omega) (by omega)]
  simp only [Int.toNat_natCast, hz1, Nat.mul_one]
  rw [ptrsA_nil]
  congr 2
  unfold madeCells
  congr 1
  apply Array.ext_getElem?
  intro j
  by_cases hj : j < Ls.length
  · simp [hj, Value.cells, Nat.mod_one]
  · rw [Array.getElem?_eq_none (by simp; omega), Array.getElem?_eq_none (by simp; omega)]

/-- A copy of the lists in new memory. -/
def Copied (w : World) (Ls : List (List Int)) (e : Ending) (w' : World) : Prop := ∃ us : List Nat, e = .returned (.slice (some ⟨w.heap.size, 0, none⟩) Ls.length Ls.length) ∧ CB w' w.heap.size us Ls ∧ us.length = Ls.length

set_option maxHeartbeats 800000 in
theorem toSS_nil (a : Option Addr) (c : Nat) (w : World) :
    Calls Try.prog 26 #[.slice a 0 c] w fun e w' => Copied w [] e w' ∧ Below w.heap.size w w' := by
  have hmk := fun W => run_mkSlices [] (by simp) W
  simp only [List.length_nil, Int.natCast_zero] at hmk
  go_enter Try.func26, Try.ntmps26
  go_wp2
  clear hmk
  go_loopw [4] (fun i wr => i = .int .i64 0 ∧ Hid (CB wr w.heap.size [] []) ∧ Below w.heap.size w wr) (fun i _ => 0)
  case atStart => exact ⟨rfl, CB.new w [], (Below.refl _ _).alloc (Nat.le_refl _) _⟩
  case round =>
    obtain ⟨rfl, HB, hb⟩ := hrel
    go_wp2
    go_ret
    exact ⟨⟨[], rfl, HB.out, rfl⟩, hb⟩

set_option maxHeartbeats 1600000 in
theorem toSS_some (b off cap : Nat) (Ls : List (List Int)) (w : World) (hbl : b < w.heap.size) (hc : Rows w b off Ls) (hl : Ls.length + tot Ls Ls.length ≤ 1048576) :
    Calls Try.prog 26 #[.slice (some ⟨b, off, none⟩) Ls.length cap] w fun e w' => Copied w Ls e w' ∧ Below w.heap.size w w' := by
  have hmk := run_mkSlices Ls (by omega) w
  have HC := Lib.hid hc; clear hc
  go_enter Try.func26, Try.ntmps26
  go_wp2
  clear hmk
  go_loopw [4] (fun i wr => ∃ (k : Nat) (us : List Nat), k ≤ Ls.length ∧ i = .int .i64 k ∧ Hid (us.length = k) ∧ Hid (CB wr w.heap.size us Ls) ∧ Hid (∀ j, j < k → eN us j < wr.heap.size) ∧ Below w.heap.size w wr) (fun i _ => Ls.length - (intOf i).toNat)
  case atStart => exact ⟨0, [], Nat.zero_le _, rfl, rfl, CB.new w Ls, fun j h => by omega, (Below.refl _ _).alloc (Nat.le_refl _) _⟩
  case round =>
    obtain ⟨k, us, hk, rfl, HU, HB, HM, hb⟩ := hrel
    by_cases hlt : (k : Int) < Ls.length
    · have hkl : k < Ls.length := by omega
      obtain ⟨p, c, hcell0, hsl0⟩ := HC.out k hkl
      have hcell : wr.cell? ⟨b, off + k, none⟩ = some (.slice p (elS Ls k).length c) := (hb.cell (p := ⟨b, off + k, none⟩) hbl).trans hcell0
      have hk0 : (0 : Int) ≤ k := by omega
      have hts : tot Ls (k + 1) = tot Ls k + (elS Ls k).length := rfl
      have hmo := tot_mono Ls (k + 1) Ls.length (by omega)
      have hcon := toInts_any _ (elS Ls k) wr (hsl0.below hb) (by omega)
      have hlB := HB.out.lt
      clear hts hmo hsl0 hcell0
      go_wp2_with fail
      refine hcon.mono ?_
      rintro e w1 ⟨rfl, hB1, hb1⟩
      have HB1 := Lib.hid (HB.out.below hb1)
      have HN := Lib.hid hB1
      have s1 := hb1.size
      have hfr : w1.frozen? ⟨w.heap.size, k, none⟩ = false := HB1.out.frozen k
      have hck := HB1.out.cell hkl
      have HS : Hid (CB (w1.setCell ⟨w.heap.size, k, none⟩ (.slice (some ⟨wr.heap.size, 0, none⟩) (elS Ls k).length (elS Ls k).length)) w.heap.size (us ++ [wr.heap.size]) Ls) := by
        show CB _ _ _ _
        have e := HU.out
        subst e
        exact HB1.out.snoc HN.out hkl hlB HM.out
      have HU2 : Hid ((us ++ [wr.heap.size]).length = k + 1) := by show _ = _; rw [List.length_append, HU.out]; rfl
      have HM2 : Hid (∀ j, j < k + 1 → eN (us ++ [wr.heap.size]) j < (w1.setCell ⟨w.heap.size, k, none⟩ (.slice (some ⟨wr.heap.size, 0, none⟩) (elS Ls k).length (elS Ls k).length)).heap.size) := fun j hj => by
        have hlt1 := HN.out.lt
        rw [show (w1.setCell ⟨w.heap.size, k, none⟩ (.slice (some ⟨wr.heap.size, 0, none⟩) (elS Ls k).length (elS Ls k).length)).heap.size = w1.heap.size by simp]
        have e := HU.out
        by_cases h2 : j < us.length
        · rw [eN_left _ _ _ h2]; exact Nat.lt_of_lt_of_le (HM.out j (by omega)) s1
        · obtain rfl : j = us.length := by omega
          rw [eN_end]; exact hlt1
      have hbs := (hb.trans (hb1.mono (by omega))).setCell (p := ⟨w.heap.size, k, none⟩) (by simp) (.slice (some ⟨wr.heap.size, 0, none⟩) (elS Ls k).length (elS Ls k).length)
      clear hB1 HB HB1 HN hcon hb1 hcell
      go_wp2_with fail
      go_roundw
      case rel => exact ⟨k + 1, _, by omega, by go_num, HU2, HS, HM2, hbs⟩
      case measure => simp [intOf]; omega
    · obtain rfl : k = Ls.length := by omega
      go_wp2
      go_ret
      exact ⟨⟨us, rfl, HB.out, HU.out⟩, hb⟩

theorem toSS_any (v : Value) (Ls : List (List Int)) (w : World) (hs : SS w v Ls) (hl : Ls.length + tot Ls Ls.length ≤ 1048576) :
    Calls Try.prog 26 #[v] w fun e w' => Copied w Ls e w' ∧ Below w.heap.size w w' := by
  by_cases h : Ls.length = 0
  · obtain rfl := List.eq_nil_of_length_eq_zero h
    rw [hs.form]
    exact toSS_nil _ _ w
  · obtain ⟨b, off, cap, rfl, hb, hc⟩ := hs.rows (by omega)
    exact toSS_some b off cap Ls w hb hc hl
end Go.Proofs.Ytneomnkpfkomiaa
