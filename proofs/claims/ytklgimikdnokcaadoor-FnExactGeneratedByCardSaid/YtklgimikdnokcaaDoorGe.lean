/-
  Lists of elements: impl.isRest, impl.areRests, spec.l05Elements, impl.groupWith. (A plain seat.)
-/
import Derived.Test.YtklgimikdnokcaaDoorGk
namespace Go.Proofs.YtklgimikdnokcaaDoor
set_option maxRecDepth 100000
open Go.RowKit

/-- A number that is an element. -/
def inE (m : Int) (z : Int) : Bool := decide (0 ≤ z) && decide (z < m)
theorem inE_iff (m z : Int) : inE m z = true ↔ 0 ≤ z ∧ z < m := by unfold inE; simp
def elOk (m : Int) (zs : List Int) (k : Nat) : Bool := (List.range k).all fun i => inE m (el zs i)
theorem elOk_succ (m : Int) (zs : List Int) (k : Nat) : elOk m zs (k + 1) = (elOk m zs k && inE m (el zs k)) := by
  unfold elOk; rw [List.range_succ, List.all_append]; simp
theorem elOk_at {m : Int} {zs : List Int} {k i : Nat} (h : elOk m zs k = true) (hi : i < k) : 0 ≤ el zs i ∧ el zs i < m :=
  (inE_iff _ _).1 (List.all_eq_true.1 h i (List.mem_range.2 hi))
theorem elOk_no {m : Int} {zs : List Int} {k i : Nat} (hi : i < k) (h : inE m (el zs i) = false) : elOk m zs k = false := by
  cases e : elOk m zs k with
  | false => rfl
  | true => have := List.all_eq_true.1 e i (List.mem_range.2 hi); rw [h] at this; cases this
/-- The code of elements. -/
def elK (m : Int) (zs : List Int) : Int := if elOk m zs zs.length then 0 else 2
theorem elK_no {m : Int} {zs : List Int} (h : elOk m zs zs.length = false) : elK m zs = 2 := by unfold elK; rw [h]; rfl
theorem elK_yes {m : Int} {zs : List Int} (h : elOk m zs zs.length = true) : elK m zs = 0 := by unfold elK; rw [h]; rfl
/-- The code of a group and elements. -/
def elC (a b : Int) (zs : List Int) : Int := if isGr a b then if elOk (gOrd a.toNat b.toNat) zs zs.length then 0 else 2 else 1
theorem elC_no {a b : Int} (zs : List Int) (h : isGr a b = false) : elC a b zs = 1 := by unfold elC; rw [h]; rfl
theorem elC_bad {k p : Nat} {zs : List Int} (h : gOk k p = true) (he : elOk (gOrd k p) zs zs.length = false) : elC k p zs = 2 := by
  unfold elC; rw [isGr_cast, h, Int.toNat_natCast, Int.toNat_natCast, he]; rfl
theorem elC_yes {k p : Nat} {zs : List Int} (h : gOk k p = true) (he : elOk (gOrd k p) zs zs.length = true) : elC k p zs = 0 := by
  unfold elC; rw [isGr_cast, h, Int.toNat_natCast, Int.toNat_natCast, he]; rfl

set_option maxHeartbeats 400000 in
theorem isRest_any (m z : Int) (w : World) :
    Calls Tryd.prog 60 #[.int .i64 m, .int .i64 z] w fun e w' => e = .returned (.bool (inE m z)) ∧ w = w' := by
  unfold inE
  by_cases h : 0 ≤ z
  · have h2 : (decide (0 ≤ z) && decide (z < m)) = decide (z < m) := by rw [decide_eq_true h]; rfl
    rw [h2]; clear h2
    go_enter Tryd.func60, Tryd.ntmps60
    go_wp2
    go_ret
    exact ⟨rfl, rfl⟩
  · have h2 : (decide (0 ≤ z) && decide (z < m)) = false := by rw [decide_eq_false h]; rfl
    rw [h2]; clear h2
    go_enter Tryd.func60, Tryd.ntmps60
    go_wp2
    go_ret
    exact ⟨rfl, rfl⟩

set_option maxHeartbeats 800000 in
theorem areRests_nil (m : Int) (a : Option Addr) (c : Nat) (w : World) :
    Calls Tryd.prog 43 #[.int .i64 m, .slice a 0 c] w fun e w' => e = .returned (.bool true) ∧ w = w' := by
  go_enter Tryd.func43, Tryd.ntmps43
  go_wp2_with fail
  go_loop [6, 9] (fun _ i => i = .int .i64 0) (fun _ _ => 0)
  case atStart => exact rfl
  case round =>
    obtain rfl := hrel
    go_wp2_with fail
    go_ret
    exact ⟨rfl, rfl⟩

set_option maxHeartbeats 1600000 in
theorem areRests_some (m : Int) (b off cap : Nat) (zs : List Int) (w : World) (hc : Cells w b off zs) (hl : zs.length ≤ 9223372036854775807) :
    Calls Tryd.prog 43 #[.int .i64 m, .slice (some ⟨b, off, none⟩) zs.length cap] w fun e w' => e = .returned (.bool (elOk m zs zs.length)) ∧ w = w' := by
  have HC := Lib.hid hc; clear hc
  have hr := fun z W => isRest_any m z W
  go_enter Tryd.func43, Tryd.ntmps43
  go_wp2_with fail
  go_loop [6, 9] (fun _ i => ∃ k : Nat, k ≤ zs.length ∧ i = .int .i64 k ∧ Hid (elOk m zs k = true)) (fun _ i => zs.length - (intOf i).toNat)
  case atStart => exact ⟨0, Nat.zero_le _, rfl, rfl⟩
  case round =>
    obtain ⟨k, hk, rfl, HK⟩ := hrel
    by_cases hlt : (k : Int) < zs.length
    · have hkl : k < zs.length := by omega
      have hz : w.cell? ⟨b, off + k, none⟩ = some (.int .i64 (el zs k)) := HC.out k hkl
      have hk0 : (0 : Int) ≤ k := by omega
      cases hg : inE m (el zs k)
      · have HNO := Lib.hid (elOk_no hkl hg)
        have hr1 := fun W => hr (el zs k) W
        rw [hg] at hr1
        go_wp2_with (go_at_call 60; refine (hr1 _).mono ?_; rintro e w1 ⟨rfl, rfl⟩)
        go_ret
        exact ⟨ret_bool HNO.out.symm, rfl⟩
      · have HK2 : Hid (elOk m zs (k + 1) = true) := by show _ = _; rw [elOk_succ, HK.out, hg]; rfl
        have hr1 := fun W => hr (el zs k) W
        rw [hg] at hr1
        go_wp2_with (go_at_call 60; refine (hr1 _).mono ?_; rintro e w1 ⟨rfl, rfl⟩)
        go_round
        case rel => exact ⟨k + 1, by omega, by go_num, HK2⟩
        case measure => simp [intOf]; omega
    · obtain rfl : k = zs.length := by omega
      go_wp2_with fail
      go_ret
      exact ⟨ret_bool HK.out.symm, rfl⟩

theorem areRests_any (m : Int) (v : Value) (zs : List Int) (w : World) (hs : Sl w v zs) (hl : zs.length ≤ 9223372036854775807) :
    Calls Tryd.prog 43 #[.int .i64 m, v] w fun e w' => e = .returned (.bool (elOk m zs zs.length)) ∧ w = w' := by
  rcases hs with ⟨a, c, rfl, rfl⟩ | ⟨b, off, cap, rfl, _, hc⟩
  · exact areRests_nil m a c w
  · exact areRests_some m b off cap zs w hc hl

set_option maxHeartbeats 800000 in
theorem l05Elements_inv (a b : Int) (v : Value) (w : World) (h : isGr a b = false) :
    Calls Tryd.prog 33 #[gv a b, v] w fun e w' => e = .returned (.int .i64 1) ∧ Below w.heap.size w w' := by
  have D0 : Below w.heap.size w (w.alloc (.cells #[.int .i64 a, .int .i64 b] 27)) := (Below.refl _ _).alloc (Nat.le_refl _) _
  have hc := l05Is_any a b (w.alloc (.cells #[.int .i64 a, .int .i64 b] 27))
  rw [h] at hc
  unfold gv at *
  go_enter Tryd.func33, Tryd.ntmps33
  go_wp2_with (go_at_call 55; refine hc.mono ?_; rintro e w1 ⟨rfl, hb⟩)
  go_ret
  exact ⟨rfl, D0.trans (hb.mono (by simp))⟩

set_option maxHeartbeats 800000 in
theorem l05Elements_nil (k p : Nat) (a : Option Addr) (c : Nat) (w : World) (h : gOk k p = true) :
    Calls Tryd.prog 33 #[gv k p, .slice a 0 c] w fun e w' => e = .returned (.int .i64 0) ∧ Below w.heap.size w w' := by
  have D0 : Below w.heap.size w (w.alloc (.cells #[.int .i64 k, .int .i64 p] 27)) := (Below.refl _ _).alloc (Nat.le_refl _) _
  have hc := l05Is_any k p (w.alloc (.cells #[.int .i64 k, .int .i64 p] 27))
  rw [isGr_cast, h] at hc
  unfold gv at *
  go_enter Tryd.func33, Tryd.ntmps33
  go_wp2_with (go_at_call 55; refine hc.mono ?_; rintro e w1 ⟨rfl, hb⟩)
  have E1 := D0.trans (hb.mono (by simp))
  clear hb hc D0
  go_loop [5] (fun i => i = .int .i64 0) (fun _ => 0)
  case atStart => exact rfl
  case round =>
    obtain rfl := hrel
    go_wp2_with fail
    go_ret
    exact ⟨rfl, E1⟩

set_option maxHeartbeats 3200000 in
theorem l05Elements_some (k p : Nat) (b off cap : Nat) (zs : List Int) (w : World) (h : gOk k p = true) (hb : b < w.heap.size) (hc : Cells w b off zs) (hl : zs.length ≤ 9223372036854775807) :
    Calls Tryd.prog 33 #[gv k p, .slice (some ⟨b, off, none⟩) zs.length cap] w fun e w' => e = .returned (.int .i64 (elK (gOrd k p) zs)) ∧ Below w.heap.size w w' := by
  have D0 : Below w.heap.size w (w.alloc (.cells #[.int .i64 k, .int .i64 p] 27)) := (Below.refl _ _).alloc (Nat.le_refl _) _
  have HB0 := Lib.hid (World.alloc_heap_new w (.cells #[.int .i64 k, .int .i64 p] 27))
  have hi := l05Is_any k p (w.alloc (.cells #[.int .i64 k, .int .i64 p] 27))
  rw [isGr_cast, h] at hi
  have HO := Lib.hid (fun W => l05Order_any k p W h)
  have HC := Lib.hid (hc.below D0 hb)
  have ho := gOrd_le h
  have ho1 := gOrd_pos h
  obtain ⟨m, hm⟩ : ∃ m, m = gOrd k p := ⟨_, rfl⟩
  rw [← hm] at HO ho ho1 ⊢
  clear hc hm h
  unfold gv at *
  go_enter Tryd.func33, Tryd.ntmps33
  go_wp2_with (go_at_call 55; refine hi.mono ?_; rintro e w1 ⟨rfl, hb1⟩)
  have s1 := hb1.size
  rw [World.size_alloc] at hb1 s1
  clear hi
  go_loopw [5] (fun i wr => ∃ j : Nat, j ≤ zs.length ∧ i = .int .i64 j ∧ Hid (elOk m zs j = true) ∧ Below (w.heap.size + 1) (w.alloc (.cells #[.int .i64 k, .int .i64 p] 27)) wr ∧ w.heap.size + 1 ≤ wr.heap.size) (fun i _ => zs.length - (intOf i).toNat)
  case atStart => exact ⟨0, Nat.zero_le _, rfl, rfl, hb1, s1⟩
  case round =>
    obtain ⟨j, hj, rfl, HK, hE, hs⟩ := hrel
    by_cases hlt : (j : Int) < zs.length
    · have hjl : j < zs.length := by omega
      have hz : wr.drew.cell? ⟨b, off + j, none⟩ = some (.int .i64 (el zs j)) := by
        rw [World.cell?_drew]
        exact (hE.cell (p := ⟨b, off + j, none⟩) (by simp; omega)).trans (HC.out j hjl)
      obtain ⟨r0, r1, -, -⟩ := two_cells ((hE.block w.heap.size (by omega)).trans HB0.out)
      have hj0 : (0 : Int) ≤ j := by omega
      have hm1 : (1 : Int) ≤ m := by omega
      have hm2 : (m : Int) ≤ 62 := by omega
      have W1 : IntKind.i64.wrap ((m : Int) - 1) = (m : Int) - 1 := IntWalk.i64_in _ (by omega)
      have HW : Hid (∀ w3 : World, Below wr.drew.heap.size wr.drew w3 → w3.cell? ⟨b, off + j, none⟩ = some (.int .i64 (el zs j)) ∧ Below (w.heap.size + 1) (w.alloc (.cells #[.int .i64 k, .int .i64 p] 27)) w3 ∧ w.heap.size + 1 ≤ w3.heap.size) := fun w3 h3 => ⟨(h3.cell (p := ⟨b, off + j, none⟩) (by simp; omega)).trans hz, hE.drew.trans (h3.mono (by simpa using hs)), Nat.le_trans hs (by simpa using h3.size)⟩
      cases hg : inE m (el zs j)
      · have HNO := Lib.hid (elOk_no hjl hg)
        have HIN := Lib.hid (fun W => in_any (el zs j) 0 ((m : Int) - 1) W)
        have HV : Hid ((decide (0 ≤ el zs j) && decide (el zs j ≤ (m : Int) - 1)) = false) := by
          show _ = _
          rw [← hg]; unfold inE; congr 1; rw [decide_eq_decide]; omega
        rw [HV.out] at HIN
        clear hg HV
        go_wp2_with fail
        go_region_with (first | (go_at_call 51; with_reducible refine (HO.out _).mono ?_; rintro e w3 ⟨rfl, hb3⟩; obtain ⟨hz3, hE3, hs3⟩ := HW.out w3 hb3; clear hb3) | (go_at_call 40; with_reducible refine (HIN.out _).mono ?_; rintro e w4 ⟨rfl, rfl⟩))
        all_goals clear W1
        all_goals
          go_wp2_with fail
          go_ret
          exact ⟨ret_int (elK_no HNO.out).symm, D0.trans (hE3.mono (by omega))⟩
      · have HK2 : Hid (elOk m zs (j + 1) = true) := by show _ = _; rw [elOk_succ, HK.out, hg]; rfl
        have HIN := Lib.hid (fun W => in_any (el zs j) 0 ((m : Int) - 1) W)
        have HV : Hid ((decide (0 ≤ el zs j) && decide (el zs j ≤ (m : Int) - 1)) = true) := by
          show _ = _
          rw [← hg]; unfold inE; congr 1; rw [decide_eq_decide]; omega
        rw [HV.out] at HIN
        clear hg HV
        go_wp2_with fail
        go_region_with (first | (go_at_call 51; with_reducible refine (HO.out _).mono ?_; rintro e w3 ⟨rfl, hb3⟩; obtain ⟨hz3, hE3, hs3⟩ := HW.out w3 hb3; clear hb3) | (go_at_call 40; with_reducible refine (HIN.out _).mono ?_; rintro e w4 ⟨rfl, rfl⟩))
        all_goals clear W1
        all_goals
          go_wp2_with fail
          go_roundw
          case rel => exact ⟨j + 1, by omega, by go_num, HK2, hE3, hs3⟩
          case measure => simp [intOf]; omega
    · obtain rfl : j = zs.length := by omega
      go_wp2_with fail
      go_ret
      exact ⟨ret_int (elK_yes HK.out).symm, D0.trans (hE.mono (by omega))⟩

theorem l05Elements_any (a b : Int) (v : Value) (zs : List Int) (w : World) (hs : Sl w v zs) (hl : zs.length ≤ 9223372036854775807) :
    Calls Tryd.prog 33 #[gv a b, v] w fun e w' => e = .returned (.int .i64 (elC a b zs)) ∧ Below w.heap.size w w' := by
  cases h : isGr a b
  · rw [elC_no zs h]; exact l05Elements_inv a b v w h
  · obtain ⟨k, p, rfl, rfl, hg⟩ := isGr_nat h
    have e : elC k p zs = elK (gOrd k p) zs := by
      cases he : elOk (gOrd k p) zs zs.length
      · rw [elC_bad hg he, elK_no he]
      · rw [elC_yes hg he, elK_yes he]
    rw [e]
    rcases hs with ⟨a, c, rfl, rfl⟩ | ⟨b, off, cap, rfl, hb, hc⟩
    · exact l05Elements_nil k p a c w hg
    · exact l05Elements_some k p b off cap zs w hg hb hc hl

end Go.Proofs.YtklgimikdnokcaaDoor
