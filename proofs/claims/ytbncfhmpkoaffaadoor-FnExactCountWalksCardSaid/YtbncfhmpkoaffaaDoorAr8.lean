/-
  impl.areRests of two numbers.
-/
import Derived.Test.YtbncfhmpkoaffaaDoorInts
import Derived.Lib.Hide
namespace Go.Proofs.YtbncfhmpkoaffaaDoor
set_option maxRecDepth 100000
set_option maxRecDepth 100000
open Go.RowKit

def inM (m z : Int) : Bool := decide (0 ≤ z) && decide (z < m)

set_option maxHeartbeats 400000 in
theorem isRest_any (m z : Int) (w : World) :
    Calls Tryd.prog 79 #[.int .i64 m, .int .i64 z] w fun e w' => e = .returned (.bool (inM m z)) ∧ w = w' := by
  unfold inM
  by_cases h : 0 ≤ z
  · have h2 : (decide (0 ≤ z) && decide (z < m)) = decide (z < m) := by rw [decide_eq_true h]; rfl
    rw [h2]; clear h2
    go_enter Tryd.func79, Tryd.ntmps79
    go_wp2
    go_ret
    exact ⟨rfl, rfl⟩
  · have h2 : (decide (0 ≤ z) && decide (z < m)) = false := by rw [decide_eq_false h]; rfl
    rw [h2]; clear h2
    go_enter Tryd.func79, Tryd.ntmps79
    go_wp2
    go_ret
    exact ⟨rfl, rfl⟩

def elM (m : Int) (zs : List Int) (k : Nat) : Bool := (List.range k).all fun i => inM m (el zs i)
theorem elM_succ (m : Int) (zs : List Int) (k : Nat) : elM m zs (k + 1) = (elM m zs k && inM m (el zs k)) := by
  unfold elM; rw [List.range_succ, List.all_append]; simp
theorem elM_no {m : Int} {zs : List Int} {k q : Nat} (hk : k < q) (h : inM m (el zs k) = false) : elM m zs q = false := by
  cases e : elM m zs q with
  | false => rfl
  | true =>
    unfold elM at e
    rw [List.all_eq_true] at e
    have := e k (List.mem_range.2 hk)
    rw [h] at this; exact absurd this (by simp)

set_option maxHeartbeats 800000 in
theorem areRests_some (m : Int) (b off cap : Nat) (zs : List Int) (w : World) (hc : Cells w b off zs) (hl : zs.length ≤ 9223372036854775807) :
    Calls Tryd.prog 62 #[.int .i64 m, .slice (some ⟨b, off, none⟩) zs.length cap] w fun e w' => e = .returned (.bool (elM m zs zs.length)) ∧ w = w' := by
  have HC := Lib.hid hc
  have hr := fun z W => isRest_any m z W
  clear hc
  go_enter Tryd.func62, Tryd.ntmps62
  go_wp2_with fail
  go_loop [6, 9] (fun _ i => ∃ k : Nat, k ≤ zs.length ∧ i = .int .i64 k ∧ Hid (elM m zs k = true)) (fun _ i => zs.length - (intOf i).toNat)
  case atStart => exact ⟨0, Nat.zero_le _, rfl, rfl⟩
  case round =>
    obtain ⟨k, hk, rfl, HK⟩ := hrel
    by_cases hlt : (k : Int) < zs.length
    · have hkl : k < zs.length := by omega
      have hz : w.cell? ⟨b, off + k, none⟩ = some (.int .i64 (el zs k)) := HC.out k hkl
      have hk0 : (0 : Int) ≤ k := by omega
      cases hg : inM m (el zs k)
      · have HNO := Lib.hid (elM_no hkl hg)
        have hr1 := fun W => hr (el zs k) W
        rw [hg] at hr1
        go_wp2_with (go_at_call 79; refine (hr1 _).mono ?_; rintro e w1 ⟨rfl, rfl⟩)
        go_ret
        exact ⟨ret_bool HNO.out.symm, rfl⟩
      · have HK2 : Hid (elM m zs (k + 1) = true) := by show _ = _; rw [elM_succ, HK.out, hg]; rfl
        have hr1 := fun W => hr (el zs k) W
        rw [hg] at hr1
        go_wp2_with (go_at_call 79; refine (hr1 _).mono ?_; rintro e w1 ⟨rfl, rfl⟩)
        go_round
        case rel => exact ⟨k + 1, by omega, by go_num, HK2⟩
        case measure => simp [intOf]; omega
    · obtain rfl : k = zs.length := by omega
      go_wp2_with fail
      go_ret
      exact ⟨ret_bool HK.out.symm, rfl⟩

theorem elM_two (m a c : Int) : elM m [a, c] 2 = (inM m a && inM m c) := by
  rw [elM_succ, elM_succ]; rfl
theorem areRests_two (m a c : Int) (W : World) (g : Nat) (t : TypeId) (h : W.heap[g]? = some (.cells #[.int .i64 a, .int .i64 c] t (0, 0))) (r : Bool) (hr : (inM m a && inM m c) = r) :
    Calls Tryd.prog 62 #[.int .i64 m, .slice (some ⟨g, 0, none⟩) 2 2] W fun e w' => e = .returned (.bool r) ∧ W = w' := by
  obtain ⟨x0, x1, -, -⟩ := two_cells h
  have hc : Cells W g 0 [a, c] := fun i hi => by
    match i, hi with
    | 0, _ => rw [Nat.zero_add]; exact x0
    | 1, _ => rw [Nat.zero_add]; exact x1
    | n + 2, hi => simp at hi; omega
  have := areRests_some m g 0 2 [a, c] W hc (by simp)
  rw [show [a, c].length = 2 from rfl, elM_two, hr] at this
  exact this
end Go.Proofs.YtbncfhmpkoaffaaDoor
