/-
  impl.membersOf: the iterator over the digits 1 of a row.
-/
import Derived.Test.YtkflcjhoghiffaaDoorTz
import Derived.RangeFuncNested
import Derived.RangeFuncBound
import Derived.RangeFuncCalls
import Derived.RangeFuncLeaves
import Derived.Shelf.Abstract
import Derived.Shelf.RegionOpen
import Derived.OwnWalkIn
import Derived.TacticsInMore
import Derived.LoopNIn
import Derived.LoopIn
import Derived.Lib.Hide
namespace Go.Proofs.YtkflcjhoghiffaaDoor
set_option maxRecDepth 100000
open Go.RowKit Go.Shelf

attribute [local go_sem] Oper.semAt_some

/-- One place of a digit 1 of x. -/
abbrev Mem (x : Nat) := { j : Nat // j ∈ mem x }
def memL (x : Nat) : List (Mem x) := (mem x).attach
theorem memL_val (x : Nat) : (memL x).map (·.1) = mem x := by unfold memL; simp

theorem i64_val {x : Nat} (y : Mem x) : y.1 < 64 := mem_lt y.2

set_option maxHeartbeats 400000 in
theorem first_any (x : Nat) (hx : x < 9223372036854775808) (hx0 : x ≠ 0) (w : World) (hT : Tab w) :
    Calls Tryd.prog 74 #[.int .i64 x] w fun e w' => e = .returned (.int .i64 (Lib.ctz 64 x)) ∧ w = w' := by
  have hu : IntKind.u64.wrap (x : Int) = x := by rw [IntKind.wrap_u64]; omega
  have htz := tz_any x (by omega) hx0 w hT
  go_enter Tryd.func74, Tryd.ntmps74
  go_wp2_with (go_at_call 76; refine htz.mono ?_; rintro e w' ⟨rfl, rfl⟩)
  go_ret
  exact ⟨rfl, rfl⟩

set_option maxRecDepth 100000 in
set_option maxHeartbeats 2000000 in
theorem members1_in (n : Nat) (hn : 1 ≤ n) (l Bn n₀ : Nat) (x : Nat) (hx : x < 9223372036854775808) (J Jx : List (Mem x) → World → Prop)
    (hY : ∀ pre y W, J pre W → pre.length < (memL x).length → YieldAt Fence.wide (n - 1) Tryd.prog l #[.int .i64 (y : Mem x).1] W fun e W' =>
      (e = .returned (.bool true) ∧ J (pre ++ [y]) W' ∧ Below n₀ W W') ∨ (e = .returned (.bool false) ∧ Jx (pre ++ [y]) W'))
    (W : World) (hBn : W.cell? ⟨Bn, 0, none⟩ = some (.int .i64 x)) (hT : Tab W) (hT0 : 0 < n₀) (h0 : J [] W) :
    CallsIn Fence.wide n Tryd.prog 73 #[.func (.yield l) #[] #[], .pointer (some ⟨Bn, 0, none⟩)] W fun e W' => (∃ v, e = .returned v) ∧
      ((∃ ys, ys = memL x ∧ J ys W') ∨ (∃ pre, pre <+: memL x ∧ Jx pre W')) := by
  refine callsIn_of_wp Tryd.func73 rfl trivial ?_ rfl
  simp only [Tryd.ntmps73, List.size_toArray, List.length_cons, List.length_nil, Nat.reduceAdd, Nat.reduceSub, Array.replicate_succ, Array.replicate_zero, List.push_toArray, List.append_toArray, List.nil_append, List.cons_append]
  gi_wp2
  gi_loopw [3] (fun p wr => ∃ (pre rest : List (Mem x)) (y : Nat), p = .int .i64 y ∧ y ≤ x ∧ Hid (memL x = pre ++ rest) ∧ Hid (rest.map (·.1) = mem y) ∧ Tab wr ∧ J pre wr)
    (fun p wr => (intOf p).toNat)
  case atStart =>
    exact ⟨[], memL x, x, by rfl, Nat.le_refl _, rfl, memL_val x, hT, h0⟩
  case round =>
    obtain ⟨pre, rest, y, rfl, hyx, HP, HR, hTr, hJ⟩ := hrel
    by_cases hy0 : y = 0
    · subst hy0
      have hr : rest = [] := by have := HR.out; rw [mem_zero] at this; exact List.map_eq_nil_iff.1 this
      subst hr
      gi_wp2
      go_end0
      exact ⟨⟨_, rfl⟩, .inl ⟨pre, by have := HP.out; simp at this; exact this.symm, hJ⟩⟩
    · have hy64 : y < 2 ^ 64 := by omega
      have hms := mem_step y hy0 hy64
      cases rest with
      | nil => have := HR.out; rw [hms] at this; simp at this
      | cons z rest =>
        have h1 := HR.out
        rw [hms, List.map_cons, List.cons.injEq] at h1
        obtain ⟨hz, hrest⟩ := h1
        have HZ := Lib.hid hz
        have HR2 := Lib.hid hrest
        clear hz hrest hms
        obtain ⟨fn, tmps, assign, body, hyy, hRR⟩ := hY pre z wr hJ (by rw [HP.out]; simp)
        have hne : ((y : Int) != 0) = true := by rw [bne_iff_ne]; omega
        have htz : Calls Tryd.prog 74 #[.int .i64 y] wr fun e w' => e = .returned (.int .i64 z.1) ∧ wr = w' := by
          rw [HZ.out]; exact first_any y (by omega) hy0 wr hTr
        gi_wp2_with (refine ⟨trivial, ?_⟩; gi_at_call 74; refine (callsIn_wide.2 htz).mono ?_; rintro e w' ⟨rfl, rfl⟩)
        refine hRR.mono ?_
        have E1 : Hid (bits BinOp.and IntKind.i64 (y : Int) ((y : Int) - 1) = ((y &&& (y - 1) : Nat) : Int)) := by
          show _ = _
          rw [show ((y : Int) - 1) = ((y - 1 : Nat) : Int) from by omega]
          exact and_i64 y (y - 1) (by omega) (by omega)
        have hdl := drop_lt y hy0
        rintro e W3 (⟨rfl, hJ3, hk3⟩ | ⟨rfl, hJx3⟩)
        · have hT3 : Tab W3 := hTr.below hk3 hT0
          gi_wp2
          go_roundw
          case rel => exact ⟨pre ++ [z], rest, y &&& (y - 1), by rw [E1.out], by omega, by show _ = _; rw [HP.out]; simp, HR2, hT3, hJ3⟩
          case measure => rw [E1.out]; simp [intOf]; omega
        · gi_wp2
          refine bodyPost_ret (results_none rfl _ _ _) rfl ?_
          exact ⟨⟨_, rfl⟩, .inr ⟨pre ++ [z], ⟨rest, by rw [HP.out]; simp⟩, hJx3⟩⟩

/-- The iterator's contract: it reads the table between the rounds, so the body must keep what lies below n₀. -/
theorem members_stops (n : Nat) (hn : 1 ≤ n) (Bn n₀ : Nat) (x : Nat) (hx : x < 9223372036854775808) (w : World) (hBl : Bn < w.heap.size) (hBn : w.cell? ⟨Bn, 0, none⟩ = some (.int .i64 x)) (hT : Tab w) (hT0 : 0 < n₀) :
    SeqStopsK Fence.wide n Tryd.prog 73 #[.pointer (some ⟨Bn, 0, none⟩)] (fun y : Mem x => #[.int .i64 y.1]) (Below n₀) (fun ys => ys = memL x) (fun pre => pre <+: memL x) (memL x).length w := by
  intro l J Jx W hW _ _ hY h0
  exact members1_in n hn l Bn n₀ x hx J Jx hY W ((hW.cell (p := ⟨Bn, 0, none⟩) hBl).trans hBn) (hT.belowAll hW) hT0 h0

set_option maxHeartbeats 400000 in
theorem membersOf_any (x : Int) (w : World) : Calls Tryd.prog 68 #[.int .i64 x] w fun e w' => e = .returned (.func (.func 73) #[] #[.pointer (some ⟨w.heap.size, 0, none⟩)]) ∧ w' = w.alloc (.cells #[.int .i64 x] 2) := by
  go_enter Tryd.func68, Tryd.ntmps68
  go_wp2
  go_ret
  exact ⟨rfl, rfl⟩
end Go.Proofs.YtkflcjhoghiffaaDoor
