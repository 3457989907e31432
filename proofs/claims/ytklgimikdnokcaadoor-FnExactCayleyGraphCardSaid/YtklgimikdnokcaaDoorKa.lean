/-
  impl.closedSet, slices.Equal, impl.isConnectionSet. (A tied seat.)
-/
import Derived.Test.YtklgimikdnokcaaDoorTb
import Derived.Test.YtklgimikdnokcaaDoorKm
import Derived.Test.YtklgimikdnokcaaDoorCp
namespace Go.Proofs.YtklgimikdnokcaaDoor
set_option maxRecDepth 100000
open Go.RowKit

theorem mem_bitsN (f : Nat → Bool) (n : Nat) (hn : n ≤ 62) : mem (bitsN f n) = (List.range n).filter f := by
  rw [mem_to _ n (bitsN_lt f n) (by omega)]
  apply List.filter_congr
  intro y hy
  rw [bitsN_testBit, decide_eq_true (List.mem_range.1 hy), Bool.true_and]
theorem own_cl {k p : Nat} {js : List Int} (h : gOk k p = true) {w : World} {B : Nat} {u : Value} (ho : w.ownsRow B 2 1 u (mem (bitsN (clF k p js) (gOrd k p))).length (natsV (mem (bitsN (clF k p js) (gOrd k p))))) : Own w B u (clE k p js) := by
  rw [mem_bitsN _ _ (gOrd_le h)] at ho
  unfold Own clE
  rw [List.length_map, List.map_map]
  exact ho
theorem clE_length {k p : Nat} {js : List Int} (h : gOk k p = true) : (clE k p js).length ≤ 62 := by
  unfold clE
  rw [List.length_map]
  have := List.length_filter_le (clF k p js) (List.range (gOrd k p))
  rw [List.length_range] at this
  exact Nat.le_trans this (gOrd_le h)

set_option maxHeartbeats 1600000 in
theorem implCl_0 (p : Nat) (v : Value) (js : List Int) (w : World) (h : gOk 0 p = true) (hj : elOk (gOrd 0 p) js js.length = true) (hs : Sl w v js) (hl : js.length ≤ 9223372036854775807) (hT : Tab w) :
    Calls Tryd.prog 32 #[gIf 0 p, v] w fun e w' => (∃ u, e = .returned u ∧ Own w' w.heap.size u (clE 0 p js)) ∧ Below w.heap.size w w' := by
  have hc := productsWith_0s p 0 v js w h (gOrd_pos h) hj hs hl
  rw [Int.natCast_zero] at hc
  have HR := Lib.hid (clRow h hj)
  have hb := row_bd (clF 0 p js) (gOrd 0 p) (gOrd_le h)
  have HL := Lib.hid (fun W hTW => listOf_any (bitsN (clF 0 p js) (gOrd 0 p)) (by omega) W hTW)
  have HO := Lib.hid (fun (W : World) B u => @own_cl 0 p js h W B u)
  clear hs hj h hb
  unfold gIf at *
  go_enter Tryd.func32, Tryd.ntmps32
  go_wp2_with fail
  refine hc.mono ?_
  rintro e w1 ⟨rfl, hb1⟩
  have hT1 := hT.belowAll hb1
  go_wp2_with fail
  rw [HR.out]
  refine (HL.out w1 hT1).mono ?_
  rintro e w2 ⟨u, rfl, ho, hb2⟩
  have HO2 := Lib.hid (HO.out _ _ _ ho)
  clear ho
  go_wp2_with fail
  go_ret
  exact ⟨⟨_, rfl, HO2.out.base hb1.size⟩, hb1.trans (hb2.mono hb1.size)⟩

set_option maxHeartbeats 1600000 in
theorem implCl_1 (p : Nat) (v : Value) (js : List Int) (w : World) (h : gOk 1 p = true) (hj : elOk (gOrd 1 p) js js.length = true) (hs : Sl w v js) (hl : js.length ≤ 9223372036854775807) (hT : Tab w) :
    Calls Tryd.prog 32 #[gIf 1 p, v] w fun e w' => (∃ u, e = .returned u ∧ Own w' w.heap.size u (clE 1 p js)) ∧ Below w.heap.size w w' := by
  have hc := productsWith_1s p 0 v js w h (gOrd_pos h) hj hs hl
  rw [Int.natCast_zero] at hc
  have HR := Lib.hid (clRow h hj)
  have hb := row_bd (clF 1 p js) (gOrd 1 p) (gOrd_le h)
  have HL := Lib.hid (fun W hTW => listOf_any (bitsN (clF 1 p js) (gOrd 1 p)) (by omega) W hTW)
  have HO := Lib.hid (fun (W : World) B u => @own_cl 1 p js h W B u)
  clear hs hj h hb
  unfold gIf at *
  go_enter Tryd.func32, Tryd.ntmps32
  go_wp2_with fail
  refine hc.mono ?_
  rintro e w1 ⟨rfl, hb1⟩
  have hT1 := hT.belowAll hb1
  go_wp2_with fail
  rw [HR.out]
  refine (HL.out w1 hT1).mono ?_
  rintro e w2 ⟨u, rfl, ho, hb2⟩
  have HO2 := Lib.hid (HO.out _ _ _ ho)
  clear ho
  go_wp2_with fail
  go_ret
  exact ⟨⟨_, rfl, HO2.out.base hb1.size⟩, hb1.trans (hb2.mono hb1.size)⟩

set_option maxHeartbeats 1600000 in
theorem implCl_2 (p : Nat) (v : Value) (js : List Int) (w : World) (h : gOk 2 p = true) (hj : elOk (gOrd 2 p) js js.length = true) (hs : Sl w v js) (hl : js.length ≤ 9223372036854775807) (hT : Tab w) :
    Calls Tryd.prog 32 #[gIf 2 p, v] w fun e w' => (∃ u, e = .returned u ∧ Own w' w.heap.size u (clE 2 p js)) ∧ Below w.heap.size w w' := by
  have hc := productsWith_2s p 0 v js w h (gOrd_pos h) hj hs hl
  rw [Int.natCast_zero] at hc
  have HR := Lib.hid (clRow h hj)
  have hb := row_bd (clF 2 p js) (gOrd 2 p) (gOrd_le h)
  have HL := Lib.hid (fun W hTW => listOf_any (bitsN (clF 2 p js) (gOrd 2 p)) (by omega) W hTW)
  have HO := Lib.hid (fun (W : World) B u => @own_cl 2 p js h W B u)
  clear hs hj h hb
  unfold gIf at *
  go_enter Tryd.func32, Tryd.ntmps32
  go_wp2_with fail
  refine hc.mono ?_
  rintro e w1 ⟨rfl, hb1⟩
  have hT1 := hT.belowAll hb1
  go_wp2_with fail
  rw [HR.out]
  refine (HL.out w1 hT1).mono ?_
  rintro e w2 ⟨u, rfl, ho, hb2⟩
  have HO2 := Lib.hid (HO.out _ _ _ ho)
  clear ho
  go_wp2_with fail
  go_ret
  exact ⟨⟨_, rfl, HO2.out.base hb1.size⟩, hb1.trans (hb2.mono hb1.size)⟩

set_option maxHeartbeats 800000 in
theorem slEq_len (v1 v2 : Value) (xs ys : List Int) (w : World) (h1 : Sl w v1 xs) (h2 : Sl w v2 ys) (hne : xs.length ≠ ys.length) :
    Calls Tryd.prog 56 #[v1, v2] w fun e w' => e = .returned (.bool false) ∧ w = w' := by
  have f1 := slForm h1
  have f2 := slForm h2
  rw [f1, f2]; clear f1 f2 h1 h2
  have hb : ((xs.length : Int) != ys.length) = true := by rw [bne_iff_ne]; omega
  go_enter Tryd.func56, Tryd.ntmps56
  go_wp2
  go_ret
  exact ⟨rfl, rfl⟩

set_option maxHeartbeats 800000 in
theorem slEq_zero (v1 v2 : Value) (w : World) (h1 : Sl w v1 []) (h2 : Sl w v2 []) :
    Calls Tryd.prog 56 #[v1, v2] w fun e w' => e = .returned (.bool true) ∧ Below w.heap.size w w' := by
  have f1 := slForm h1
  have f2 := slForm h2
  rw [f1, f2]; clear f1 f2 h1 h2
  go_enter Tryd.func56, Tryd.ntmps56
  go_wp2
  go_loopw [13] (fun i wr => i = .int .i64 0 ∧ Below w.heap.size w wr) (fun i _ => 0)
  case atStart => exact ⟨rfl, Below.refl _ _⟩
  case round =>
    obtain ⟨rfl, hb⟩ := hrel
    go_wp2
    go_ret
    exact ⟨rfl, hb⟩

set_option maxHeartbeats 800000 in
theorem slEq_some (b1 o1 c1 b2 o2 c2 n : Nat) (xs ys : List Int) (w : World) (hn1 : xs.length = n) (hn2 : ys.length = n) (hb1 : b1 < w.heap.size) (hc1 : Cells w b1 o1 xs) (hb2 : b2 < w.heap.size) (hc2 : Cells w b2 o2 ys) (hl : n ≤ 9223372036854775807) :
    Calls Tryd.prog 56 #[.slice (some ⟨b1, o1, none⟩) n c1, .slice (some ⟨b2, o2, none⟩) n c2] w fun e w' => e = .returned (.bool (decide (xs = ys))) ∧ Below w.heap.size w w' := by
  have HC1 := Lib.hid hc1; clear hc1
  have HC2 := Lib.hid hc2; clear hc2
  have HN1 := Lib.hid hn1; clear hn1
  have HN2 := Lib.hid hn2; clear hn2
  go_enter Tryd.func56, Tryd.ntmps56
  go_wp2
  go_loopw [13] (fun i wr => ∃ k : Nat, k ≤ n ∧ i = .int .i64 k ∧ Hid (xs.take k = ys.take k) ∧ Below w.heap.size w wr) (fun i _ => n - (intOf i).toNat)
  case atStart => exact ⟨0, Nat.zero_le _, rfl, rfl, Below.refl _ _⟩
  case round =>
    obtain ⟨k, hk, rfl, HE, hb⟩ := hrel
    by_cases hlt : (k : Int) < n
    · have hk1 : k < xs.length := by have := HN1.out; omega
      have hk2 : k < ys.length := by have := HN2.out; omega
      have hz1 : wr.cell? ⟨b1, o1 + k, none⟩ = some (.int .i64 (el xs k)) := (hb.cell (p := ⟨b1, o1 + k, none⟩) hb1).trans (HC1.out k hk1)
      have hz2 : wr.cell? ⟨b2, o2 + k, none⟩ = some (.int .i64 (el ys k)) := (hb.cell (p := ⟨b2, o2 + k, none⟩) hb2).trans (HC2.out k hk2)
      have hk0 : (0 : Int) ≤ k := by omega
      by_cases he : el xs k = el ys k
      · have HO : Hid (xs.take (k + 1) = ys.take (k + 1)) := take_eq_succ xs ys k hk1 hk2 HE.out he
        have hne : (el xs k != el ys k) = false := by simpa using he
        clear he
        go_wp2
        go_quiet (fail)
        go_wp2
        go_roundw
        case rel => exact ⟨k + 1, by omega, by go_num, HO, drewN_below hb _⟩
        case measure => simp [intOf]; omega
      · have hne : (el xs k != el ys k) = true := by simpa using he
        have hd : decide (xs = ys) = false := by simp; intro e; exact he (by rw [e])
        have HD := Lib.hid hd; clear hd he
        go_wp2
        go_quiet (fail)
        go_wp2
        go_ret
        exact ⟨ret_bool HD.out.symm, drewN_below hb _⟩
    · have hkl : k = n := by omega
      subst hkl
      have hd : decide (xs = ys) = true := by
        have h1 := HE.out
        rw [List.take_of_length_le (by have := HN1.out; omega), List.take_of_length_le (by have := HN2.out; omega)] at h1
        simpa using h1
      have HD := Lib.hid hd; clear hd
      go_wp2
      go_ret
      exact ⟨ret_bool HD.out.symm, hb⟩

theorem slEq_any (v1 v2 : Value) (xs ys : List Int) (w : World) (h1 : Sl w v1 xs) (h2 : Sl w v2 ys) (hx : xs.length ≤ 9223372036854775807) :
    Calls Tryd.prog 56 #[v1, v2] w fun e w' => e = .returned (.bool (decide (xs = ys))) ∧ Below w.heap.size w w' := by
  by_cases hne : xs.length = ys.length
  · by_cases h0 : xs.length = 0
    · obtain rfl := List.eq_nil_of_length_eq_zero h0
      obtain rfl := List.eq_nil_of_length_eq_zero (hne.symm.trans h0)
      exact slEq_zero v1 v2 w h1 h2
    · rcases h1 with ⟨_, _, _, rfl⟩ | ⟨b1, o1, c1, rfl, hb1, hc1⟩
      · simp at h0
      · rcases h2 with ⟨_, _, _, rfl⟩ | ⟨b2, o2, c2, rfl, hb2, hc2⟩
        · exact absurd hne h0
        · rw [← hne]
          exact slEq_some b1 o1 c1 b2 o2 c2 xs.length xs ys w rfl hne.symm hb1 hc1 hb2 hc2 hx
  · have hd : decide (xs = ys) = false := by simp; intro e; exact hne (by rw [e])
    rw [hd]
    exact (slEq_len v1 v2 xs ys w h1 h2 hne).mono fun e w' ⟨h1, h2⟩ => ⟨h1, h2 ▸ Below.refl _ _⟩

set_option maxHeartbeats 1600000 in
theorem implSet_0 (p : Nat) (v : Value) (js : List Int) (w : World) (h : gOk 0 p = true) (hj : elOk (gOrd 0 p) js js.length = true) (hs : Sl w v js) (hl : js.length ≤ 9223372036854775807) (hT : Tab w) :
    Calls Tryd.prog 35 #[gIf 0 p, v] w fun e w' => e = .returned (.bool (decide (clE 0 p js = js))) ∧ Below w.heap.size w w' := by
  have hc := implCl_0 p v js w h hj hs hl hT
  have HS := Lib.hid hs
  have HE := Lib.hid (fun u (W : World) (h1 : Sl W v js) (h2 : Sl W u (clE 0 p js)) => slEq_any v u js (clE 0 p js) W h1 h2 hl)
  clear hs hj h
  unfold gIf at *
  go_enter Tryd.func35, Tryd.ntmps35
  go_wp2_with fail
  refine hc.mono ?_
  rintro e w1 ⟨⟨u, rfl, hO⟩, hb1⟩
  have h2 := HE.out u w1 (HS.out.below hb1) hO.sl
  clear hO
  go_wp2_with fail
  refine h2.mono ?_
  rintro e w2 ⟨rfl, hb2⟩
  go_wp2_with fail
  go_ret
  exact ⟨ret_bool (by rw [decide_eq_decide]; exact eq_comm), hb1.trans (hb2.mono hb1.size)⟩

set_option maxHeartbeats 1600000 in
theorem implSet_1 (p : Nat) (v : Value) (js : List Int) (w : World) (h : gOk 1 p = true) (hj : elOk (gOrd 1 p) js js.length = true) (hs : Sl w v js) (hl : js.length ≤ 9223372036854775807) (hT : Tab w) :
    Calls Tryd.prog 35 #[gIf 1 p, v] w fun e w' => e = .returned (.bool (decide (clE 1 p js = js))) ∧ Below w.heap.size w w' := by
  have hc := implCl_1 p v js w h hj hs hl hT
  have HS := Lib.hid hs
  have HE := Lib.hid (fun u (W : World) (h1 : Sl W v js) (h2 : Sl W u (clE 1 p js)) => slEq_any v u js (clE 1 p js) W h1 h2 hl)
  clear hs hj h
  unfold gIf at *
  go_enter Tryd.func35, Tryd.ntmps35
  go_wp2_with fail
  refine hc.mono ?_
  rintro e w1 ⟨⟨u, rfl, hO⟩, hb1⟩
  have h2 := HE.out u w1 (HS.out.below hb1) hO.sl
  clear hO
  go_wp2_with fail
  refine h2.mono ?_
  rintro e w2 ⟨rfl, hb2⟩
  go_wp2_with fail
  go_ret
  exact ⟨ret_bool (by rw [decide_eq_decide]; exact eq_comm), hb1.trans (hb2.mono hb1.size)⟩

set_option maxHeartbeats 1600000 in
theorem implSet_2 (p : Nat) (v : Value) (js : List Int) (w : World) (h : gOk 2 p = true) (hj : elOk (gOrd 2 p) js js.length = true) (hs : Sl w v js) (hl : js.length ≤ 9223372036854775807) (hT : Tab w) :
    Calls Tryd.prog 35 #[gIf 2 p, v] w fun e w' => e = .returned (.bool (decide (clE 2 p js = js))) ∧ Below w.heap.size w w' := by
  have hc := implCl_2 p v js w h hj hs hl hT
  have HS := Lib.hid hs
  have HE := Lib.hid (fun u (W : World) (h1 : Sl W v js) (h2 : Sl W u (clE 2 p js)) => slEq_any v u js (clE 2 p js) W h1 h2 hl)
  clear hs hj h
  unfold gIf at *
  go_enter Tryd.func35, Tryd.ntmps35
  go_wp2_with fail
  refine hc.mono ?_
  rintro e w1 ⟨⟨u, rfl, hO⟩, hb1⟩
  have h2 := HE.out u w1 (HS.out.below hb1) hO.sl
  clear hO
  go_wp2_with fail
  refine h2.mono ?_
  rintro e w2 ⟨rfl, hb2⟩
  go_wp2_with fail
  go_ret
  exact ⟨ret_bool (by rw [decide_eq_decide]; exact eq_comm), hb1.trans (hb2.mono hb1.size)⟩

end Go.Proofs.YtklgimikdnokcaaDoor

