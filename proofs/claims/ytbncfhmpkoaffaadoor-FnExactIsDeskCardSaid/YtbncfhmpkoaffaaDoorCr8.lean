/-
  impl.checkDigraph: the code of a digraph.
-/
import Derived.Test.YtbncfhmpkoaffaaDoorCk8
namespace Go.Proofs.YtbncfhmpkoaffaaDoor
set_option maxRecDepth 100000
set_option maxRecDepth 100000
open Go.RowKit

theorem assert_err (a : Addr) (W : World) : (Instr.typeAssert (.iface 93 (.pointer (some a))) 20 83 true).run Tryd.prog W = .ok (.tuple #[.iface 93 (.pointer (some a)), .bool true]) W := by kernel_rfl
theorem assert_nil (W : World) : (Instr.typeAssert .nilIface 20 83 true).run Tryd.prog W = .ok (.tuple #[.nilIface, .bool false]) W := by kernel_rfl

set_option maxHeartbeats 1600000 in
theorem catch_panicking (p : Addr) (x : Int) (a : Addr) (older : List PanicEntry) (w : World) (hc : w.cell? p = some (.int .i64 x)) (hz : w.frozen? p = false) :
    CallsD Tryd.prog 72 #[.pointer (some p)] (.panicking ({ v := .iface 93 (.pointer (some a)), recovered := false } :: older)) w fun e u' w' =>
      e = .returned (.tuple #[]) ∧ u' = .panicking ({ v := .iface 93 (.pointer (some a)), recovered := true } :: older) ∧ w' = w.setCell p (.int .i64 1) := by
  refine callsD_of_wpS Tryd.func72 rfl fun c₀ cs hu => ?_
  apply wpS_seq
  apply wpS_region
  simp [wpOpsS, go_sem, recoverD, hu, Tryd.ntmps72, Exit.thenS, assert_err]
  apply wpS_seq
  apply wpS_region
  simp [wpOpsS, go_sem, Exit.thenS]
  refine wpS_cond (t := true) (by simp [Act.eval, Array.replicate]) ?_
  simp only [if_true]
  apply wpS_region
  simp [wpOpsS, go_sem, hc, hz, bodyPostS, results, Tryd.results72]

set_option maxHeartbeats 1600000 in
theorem catch_idle (p : Addr) (w : World) :
    CallsD Tryd.prog 72 #[.pointer (some p)] .returning w fun e u' w' => e = .returned (.tuple #[]) ∧ u' = .returning ∧ w' = w := by
  refine callsD_of_wpS Tryd.func72 rfl fun c₀ cs hu => ?_
  apply wpS_seq
  apply wpS_region
  simp [wpOpsS, go_sem, recoverD, hu, Tryd.ntmps72, Exit.thenS, assert_nil]
  apply wpS_seq
  apply wpS_region
  simp [wpOpsS, go_sem, Exit.thenS]
  refine wpS_cond (t := false) (by simp [Act.eval, Array.replicate]) ?_
  simp only [Bool.false_eq_true, if_false]
  refine wpS_of_wp (wp_skip ?_)
  cases c₀
  simp_all [bodyPostS, results, Tryd.results72]

/-- The code of a digraph. -/
def dC (n : Int) (zs : List Int) : Int := if isD n zs then 0 else 1

set_option maxHeartbeats 1600000 in
theorem chkD_yes (n : Int) (b off cap : Nat) (zs : List Int) (w : World) (hb : b < w.heap.size) (hc : Cells w b off zs) (hl : zs.length ≤ 9223372036854775807) (hd : isD n zs = true) :
    Calls Tryd.prog 45 #[.agg #[.int .i64 n, .slice (some ⟨b, off, none⟩) zs.length cap]] w fun e w' => e = .returned (.int .i64 0) ∧ Below w.heap.size w w' := by
  have hmf : ∀ (fn : Fn) (first cap : Array Value) (w : World), (Instr.makeFunc fn first cap).run Tryd.prog w = .ok (.func fn first cap) w := fun _ _ _ _ => rfl
  obtain ⟨W, hW⟩ : ∃ W, W = (w.alloc (.cells #[.int .i64 n, .slice (some ⟨b, off, none⟩) zs.length cap] 29)).alloc (.cells #[.int .i64 0] 2) := ⟨_, rfl⟩
  have D0 : Below w.heap.size w W := by rw [hW]; exact ((Below.refl _ _).alloc (Nat.le_refl _) _).alloc (by simp) _
  have hm := must_yes n b off cap zs W (Nat.lt_of_lt_of_le hb D0.size) (hc.below D0 hb) hl hd
  have HX : Hid (W.heap[w.heap.size + 1]? = some (.cells #[.int .i64 0] 2 (0, 0))) := by
    show _ = _; rw [hW]; exact heap_new_at _ _ _ (by simp)
  have HD := Lib.hid D0
  clear hc hd D0
  go_enter_defers Tryd.func45, Tryd.ntmps45
  go_wp2_with (go_at_call 73; rw [← hW]; refine hm.mono ?_; rintro e w1 ⟨rfl, hb1⟩; have HX1 := Lib.hid ((hb1.block (w.heap.size + 1) (Array.getElem?_eq_some_iff.1 HX.out).1).trans HX.out); have HB1 := Lib.hid (HD.out.trans (hb1.mono HD.out.size)); have c1 : w1.cell? ⟨w.heap.size + 1, 0, none⟩ = some (.int .i64 0) := (by rw [cell_of_row w1 _ 0 _ _ _ HX1.out]; rfl); have f1 : w1.frozen? ⟨w.heap.size + 1, 0, none⟩ = false := frozen_of_row w1 _ 0 _ _ HX1.out; clear hb1)
  clear c1 f1
  have HX2 : Hid ((w1.setCell ⟨w.heap.size + 1, 0, none⟩ (.int .i64 0)).heap[w.heap.size + 1]? = some (.cells #[.int .i64 0] 2 (0, 0))) := heap_setCell_same w1 _ 0 _ _ (.int .i64 0) HX1.out
  have HB2 : Hid (Below w.heap.size w (w1.setCell ⟨w.heap.size + 1, 0, none⟩ (.int .i64 0))) := HB1.out.setCell (p := ⟨w.heap.size + 1, 0, none⟩) (by simp) _
  refine leaves_cons (f := 72) (args := #[.pointer (some ⟨w.heap.size + 1, 0, none⟩)]) (by simp) (by simp [go_sem]) ?_
  refine (catch_idle ⟨w.heap.size + 1, 0, none⟩ _).mono ?_
  rintro e u' w'' ⟨rfl, rfl, rfl⟩
  have c2 : (w1.setCell ⟨w.heap.size + 1, 0, none⟩ (.int .i64 0)).cell? ⟨w.heap.size + 1, 0, none⟩ = some (.int .i64 0) := by rw [cell_of_row _ _ 0 _ _ _ HX2.out]; rfl
  simp [Leaves, settle, results, Tryd.results45, go_sem, c2]
  exact HB2.out

set_option maxHeartbeats 1600000 in
theorem chkD_no (n : Int) (p : Option Addr) (len cap : Nat) (zs : List Int) (w : World) (hs : Sl w (.slice p len cap) zs) (hE : ErrV w) (hl : zs.length ≤ 9223372036854775807) (hd : isD n zs = false) :
    Calls Tryd.prog 45 #[.agg #[.int .i64 n, .slice p len cap]] w fun e w' => e = .returned (.int .i64 1) ∧ Below w.heap.size w w' := by
  have hmf : ∀ (fn : Fn) (first cap : Array Value) (w : World), (Instr.makeFunc fn first cap).run Tryd.prog w = .ok (.func fn first cap) w := fun _ _ _ _ => rfl
  obtain ⟨W, hW⟩ : ∃ W, W = (w.alloc (.cells #[.int .i64 n, .slice p len cap] 29)).alloc (.cells #[.int .i64 0] 2) := ⟨_, rfl⟩
  have D0 : Below w.heap.size w W := by rw [hW]; exact ((Below.refl _ _).alloc (Nat.le_refl _) _).alloc (by simp) _
  obtain ⟨a, ha⟩ := hE.belowAll D0
  have hm := must_no n _ zs W a ha (hs.below D0) hl hd
  have HX : Hid (W.heap[w.heap.size + 1]? = some (.cells #[.int .i64 0] 2 (0, 0))) := by
    show _ = _; rw [hW]; exact heap_new_at _ _ _ (by simp)
  have HD := Lib.hid D0
  clear hs hd D0 hE ha
  go_enter_defers Tryd.func45, Tryd.ntmps45
  go_wp2_with (go_at_call 73; rw [← hW]; refine hm.mono ?_; rintro e w1 ⟨rfl, hb1⟩; have HX1 := Lib.hid ((hb1.block (w.heap.size + 1) (Array.getElem?_eq_some_iff.1 HX.out).1).trans HX.out); have HB1 := Lib.hid (HD.out.trans (hb1.mono HD.out.size)); clear hb1)
  have c1 : w1.cell? ⟨w.heap.size + 1, 0, none⟩ = some (.int .i64 0) := by rw [cell_of_row w1 _ 0 _ _ _ HX1.out]; rfl
  have f1 : w1.frozen? ⟨w.heap.size + 1, 0, none⟩ = false := frozen_of_row w1 _ 0 _ _ HX1.out
  have HX2 : Hid ((w1.setCell ⟨w.heap.size + 1, 0, none⟩ (.int .i64 1)).heap[w.heap.size + 1]? = some (.cells #[.int .i64 1] 2 (0, 0))) := heap_setCell_same w1 _ 0 _ _ (.int .i64 1) HX1.out
  have HB2 : Hid (Below w.heap.size w (w1.setCell ⟨w.heap.size + 1, 0, none⟩ (.int .i64 1))) := HB1.out.setCell (p := ⟨w.heap.size + 1, 0, none⟩) (by simp) _
  refine leaves_cons (f := 72) (args := #[.pointer (some ⟨w.heap.size + 1, 0, none⟩)]) (by simp) (by simp [go_sem]) ?_
  refine (catch_panicking ⟨w.heap.size + 1, 0, none⟩ 0 a [] _ c1 f1).mono ?_
  rintro e u' w'' ⟨rfl, rfl, rfl⟩
  have c2 : (w1.setCell ⟨w.heap.size + 1, 0, none⟩ (.int .i64 1)).cell? ⟨w.heap.size + 1, 0, none⟩ = some (.int .i64 1) := by rw [cell_of_row _ _ 0 _ _ _ HX2.out]; rfl
  simp [Leaves, settle, results, Tryd.results45, go_sem, c2]
  exact HB2.out

theorem chkD_any (n : Int) (v : Value) (zs : List Int) (w : World) (hs : Sl w v zs) (hl : zs.length ≤ 9223372036854775807) (hE : ErrV w) :
    Calls Tryd.prog 45 #[.agg #[.int .i64 n, v]] w fun e w' => e = .returned (.int .i64 (dC n zs)) ∧ Below w.heap.size w w' := by
  unfold dC
  cases hd : isD n zs with
  | true =>
    rcases hs with ⟨a, c, rfl, rfl⟩ | ⟨b, off, cap, rfl, hb, hc⟩
    · rw [isD_nil] at hd; exact absurd hd (by simp)
    · exact chkD_yes n b off cap zs w hb hc hl hd
  | false =>
    have e := slForm hs
    rw [e] at hs ⊢
    exact chkD_no n _ _ _ zs w hs hE hl hd

set_option maxHeartbeats 400000 in
theorem implId_any (n : Int) (v : Value) (zs : List Int) (w : World) (hs : Sl w v zs) (hl : zs.length ≤ 9223372036854775807) (hE : ErrV w) :
    Calls Tryd.prog 70 #[.agg #[.int .i64 n, v]] w fun e w' => e = .returned (.bool (isD n zs)) ∧ Below w.heap.size w w' := by
  have D0 : Below w.heap.size w (w.alloc (.cells #[.int .i64 n, v] 29)) := (Below.refl _ _).alloc (Nat.le_refl _) _
  have hk := chkD_any n v zs _ (hs.below D0) hl (hE.belowAll D0)
  have HD := Lib.hid D0
  unfold dC at hk
  clear hs hE D0
  cases hd : isD n zs with
  | true =>
    rw [hd, if_pos rfl] at hk
    clear hd
    go_enter Tryd.func70, Tryd.ntmps70
    go_wp2_with (go_at_call 45; refine hk.mono ?_; rintro e w1 ⟨rfl, hb1⟩; have HB1 := Lib.hid hb1; clear hb1)
    go_ret
    exact ⟨rfl, HD.out.trans (HB1.out.mono HD.out.size)⟩
  | false =>
    rw [hd, if_neg (by simp)] at hk
    clear hd
    go_enter Tryd.func70, Tryd.ntmps70
    go_wp2_with (go_at_call 45; refine hk.mono ?_; rintro e w1 ⟨rfl, hb1⟩; have HB1 := Lib.hid hb1; clear hb1)
    go_ret
    exact ⟨rfl, HD.out.trans (HB1.out.mono HD.out.size)⟩
end Go.Proofs.YtbncfhmpkoaffaaDoor
