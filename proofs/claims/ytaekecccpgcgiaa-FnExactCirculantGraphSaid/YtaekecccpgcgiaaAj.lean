/-
  impl.areNumbersUpTo, as the jumps of a graph of n vertices take it.
-/
import Derived.Test.YtaekecccpgcgiaaJg
import Derived.Test.YtaekecccpgcgiaaNu8
namespace Go.Proofs.Ytaekecccpgcgiaa
set_option maxRecDepth 100000
open Go.RowKit

def ajB (n : Int) (most : Nat) (js : List Int) : Bool := decide (js.length ≤ most) && jumpsOk n js js.length

set_option maxHeartbeats 800000 in
theorem areJumps_far (g : Int) (most : Nat) (a : Option Addr) (len cap : Nat) (w : World) (h : most < len) :
    Calls Try.prog 43 #[.int .i64 g, .int .i64 most, .slice a len cap] w fun e w' => e = .returned (.bool false) ∧ w = w' := by
  have h1 : (most : Int) < len := by omega
  go_enter Try.func43, Try.ntmps43
  go_wp2_with fail
  go_ret
  exact ⟨rfl, rfl⟩

set_option maxHeartbeats 800000 in
theorem areJumps_nil (g : Int) (most : Nat) (a : Option Addr) (c : Nat) (w : World) :
    Calls Try.prog 43 #[.int .i64 g, .int .i64 most, .slice a 0 c] w fun e w' => e = .returned (.bool true) ∧ w = w' := by
  have h0 : ¬ (most : Int) < 0 := by omega
  go_enter Try.func43, Try.ntmps43
  go_wp2_with fail
  go_loop [8, 15] (fun _ i => i = .int .i64 0) (fun _ _ => 0)
  case atStart => exact rfl
  case round =>
    obtain rfl := hrel
    go_wp2_with fail
    go_ret
    exact ⟨rfl, rfl⟩

set_option maxHeartbeats 1600000 in
theorem areJumps_some (n most : Nat) (b off cap : Nat) (js : List Int) (w : World) (hc : Cells w b off js) (hl : js.length ≤ 9223372036854775807) (hm : js.length ≤ most) :
    Calls Try.prog 43 #[.int .i64 ((n : Int) - 1), .int .i64 most, .slice (some ⟨b, off, none⟩) js.length cap] w fun e w' => e = .returned (.bool (jumpsOk n js js.length)) ∧ w = w' := by
  have HC := Lib.hid hc; clear hc
  have h1 : ¬ (most : Int) < js.length := by omega
  go_enter Try.func43, Try.ntmps43
  go_wp2_with fail
  go_loop [8, 15] (fun _ i => ∃ k : Nat, k ≤ js.length ∧ i = .int .i64 k ∧ Hid (jumpsOk n js k = true)) (fun _ i => js.length - (intOf i).toNat)
  case atStart => exact ⟨0, Nat.zero_le _, rfl, rfl⟩
  case round =>
    obtain ⟨k, hk, rfl, HK⟩ := hrel
    by_cases hlt : (k : Int) < js.length
    · have hkl : k < js.length := by omega
      have hz : w.cell? ⟨b, off + k, none⟩ = some (.int .i64 (el js k)) := HC.out k hkl
      have hk0 : (0 : Int) ≤ k := by omega
      by_cases hg : jumpB n (el js k) = true
      · obtain ⟨g1, g2⟩ := (jumpB_iff _ _).1 hg
        have HK2 : Hid (jumpsOk n js (k + 1) = true) := by show _ = _; rw [jumpsOk_succ, HK.out, hg]; rfl
        have g3 : ¬ el js k < 1 := by omega
        have g4 : ¬ (n : Int) - 1 < el js k := by omega
        have hnum := fun W => upTo_val ((n : Int) - 1) (el js k) W true (by simp; omega)
        clear hg g3 g4
        go_wp2_with (go_at_call 31; with_reducible refine (hnum _).mono ?_; rintro e w3 ⟨rfl, rfl⟩)
        go_round
        case rel => exact ⟨k + 1, by omega, by go_num, HK2⟩
        case measure => simp [intOf]; omega
      · have HNO := Lib.hid (jumpsOk_no hkl (show jumpB n (el js k) = false by simpa using hg))
        have hbad : el js k < 1 ∨ (1 ≤ el js k ∧ (n : Int) - 1 < el js k) := by
          have : ¬ (1 ≤ el js k ∧ el js k ≤ (n : Int) - 1) := fun h => hg ((jumpB_iff _ _).2 h)
          omega
        clear hg
        have hnum := fun W => upTo_val ((n : Int) - 1) (el js k) W false (by simp; omega)
        clear hbad
        go_wp2_with (go_at_call 31; with_reducible refine (hnum _).mono ?_; rintro e w3 ⟨rfl, rfl⟩)
        go_ret
        exact ⟨ret_bool HNO.out.symm, rfl⟩
    · obtain rfl : k = js.length := by omega
      go_wp2_with fail
      go_ret
      exact ⟨ret_bool HK.out.symm, rfl⟩

theorem areJumps_any (n most : Nat) (v : Value) (js : List Int) (w : World) (hs : Sl w v js) (hl : js.length ≤ 9223372036854775807) :
    Calls Try.prog 43 #[.int .i64 ((n : Int) - 1), .int .i64 most, v] w fun e w' => e = .returned (.bool (ajB n most js)) ∧ w = w' := by
  unfold ajB
  by_cases h : js.length ≤ most
  · rw [decide_eq_true h, Bool.true_and]
    rcases hs with ⟨a, c, rfl, rfl⟩ | ⟨b, off, cap, rfl, hb, hc⟩
    · exact areJumps_nil _ most a c w
    · exact areJumps_some n most b off cap js w hc hl h
  · rw [decide_eq_false h, Bool.false_and, slForm hs]
    exact areJumps_far _ most _ _ _ w (by omega)
end Go.Proofs.Ytaekecccpgcgiaa
