/-
  Lists of lists in memory: slices of slices that read as lists of lists; the laws' helpers on them. (A plain seat.)
-/
import Derived.Test.YtneomnkpfkomiaaTo
import Derived.Deep.RegionWith
namespace Go.Proofs.Ytneomnkpfkomiaa
open Go.RowKit

/-- List i of a list of lists, the empty one behind its end. -/
def elS (Ls : List (List Int)) (i : Nat) : List Int := Ls.getD i []
/-- How many numbers the first k lists have. -/
def tot (Ls : List (List Int)) : Nat → Nat
  | 0 => 0
  | k + 1 => tot Ls k + (elS Ls k).length
theorem tot_mono (Ls : List (List Int)) (k : Nat) : ∀ m, k ≤ m → tot Ls k ≤ tot Ls m
  | 0, h => by obtain rfl : k = 0 := by omega
               exact Nat.le_refl _
  | m + 1, h => by
    by_cases e : k = m + 1
    · subst e; exact Nat.le_refl _
    · exact Nat.le_trans (tot_mono Ls k m (by omega)) (Nat.le_add_right _ _)
/-- The slice value v reads as the lists of Ls. -/
def SS (w : World) (v : Value) (Ls : List (List Int)) : Prop :=
  (∃ a c, v = .slice a 0 c ∧ Ls = []) ∨ ∃ (b off cap : Nat) (u : Nat → Value), v = .slice (some ⟨b, off, none⟩) Ls.length cap ∧ b < w.heap.size ∧ ∀ i, i < Ls.length → w.cell? ⟨b, off + i, none⟩ = some (u i) ∧ Sl w (u i) (elS Ls i)
theorem SS.below {w w' : World} {v : Value} {Ls : List (List Int)} (h : SS w v Ls) (hb : Below w.heap.size w w') : SS w' v Ls := by
  rcases h with h | ⟨b, off, cap, u, e, hl, hc⟩
  · exact .inl h
  · exact .inr ⟨b, off, cap, u, e, Nat.lt_of_lt_of_le hl hb.size, fun i hi => ⟨(hb.cell (p := ⟨b, off + i, none⟩) hl).trans (hc i hi).1, (hc i hi).2.below hb⟩⟩
theorem SS.form {w : World} {v : Value} {Ls : List (List Int)} (h : SS w v Ls) : v = .slice (slPtr v) Ls.length (slCap v) := by
  rcases h with ⟨a, c, rfl, rfl⟩ | ⟨b, off, cap, u, rfl, _, _⟩ <;> rfl
/-- Its lists' cells and what they read as, where there is one. -/
def Rows (w : World) (b off : Nat) (Ls : List (List Int)) : Prop := ∀ i, i < Ls.length → ∃ p c, w.cell? ⟨b, off + i, none⟩ = some (.slice p (elS Ls i).length c) ∧ Sl w (.slice p (elS Ls i).length c) (elS Ls i)
theorem SS.rows {w : World} {v : Value} {Ls : List (List Int)} (h : SS w v Ls) (h0 : 0 < Ls.length) : ∃ b off cap, v = .slice (some ⟨b, off, none⟩) Ls.length cap ∧ b < w.heap.size ∧ Rows w b off Ls := by
  rcases h with ⟨a, c, rfl, rfl⟩ | ⟨b, off, cap, u, rfl, hb, hc⟩
  · simp at h0
  · refine ⟨b, off, cap, rfl, hb, fun i hi => ?_⟩
    obtain ⟨h1, h2⟩ := hc i hi
    have hf := slForm h2
    exact ⟨slPtr (u i), slCap (u i), by rw [← hf]; exact h1, by rw [← hf]; exact h2⟩
theorem Rows.below {w w' : World} {b off : Nat} {Ls : List (List Int)} (h : Rows w b off Ls) (hl : b < w.heap.size) (hb : Below w.heap.size w w') : Rows w' b off Ls := fun i hi => by
  obtain ⟨p, c, h1, h2⟩ := h i hi
  exact ⟨p, c, (hb.cell (p := ⟨b, off + i, none⟩) hl).trans h1, h2.below hb⟩

set_option maxHeartbeats 400000 in
theorem szInts_any (v : Value) (zs : List Int) (left : Int) (w : World) (hs : Sl w v zs) (h0 : 0 ≤ left) (h1 : left ≤ 1048576) (hl : zs.length ≤ 9223372036854775807) :
    Calls Try.prog 58 #[v, .int .i64 left] w fun e w' => e = .returned (.int .i64 (if left < zs.length then -1 else left - zs.length)) ∧ w = w' := by
  have hf := slForm hs
  rw [hf]; clear hf hs
  by_cases hlt : left < zs.length
  · rw [if_pos hlt]
    go_enter Try.func58, Try.ntmps58
    go_wp2
    go_ret
    exact ⟨rfl, rfl⟩
  · rw [if_neg hlt]
    go_enter Try.func58, Try.ntmps58
    go_wp2
    go_ret
    exact ⟨rfl, rfl⟩


set_option maxHeartbeats 800000 in
theorem szSS_nil (a : Option Addr) (c : Nat) (left : Int) (w : World) (h0 : 0 ≤ left) (h1 : left ≤ 1048576) :
    Calls Try.prog 24 #[.slice a 0 c, .int .i64 left] w fun e w' => e = .returned (.int .i64 left) ∧ w = w' := by
  go_enter Try.func24, Try.ntmps24
  go_wp2
  go_loop [1, 5] (fun l i => i = .int .i64 0 ∧ l = .int .i64 left) (fun _ _ => 0)
  case atStart => exact ⟨rfl, rfl⟩
  case round =>
    obtain ⟨rfl, rfl⟩ := hrel
    go_wp2
    go_ret
    exact ⟨rfl, rfl⟩

set_option maxHeartbeats 1600000 in
theorem szSS_some (b off cap : Nat) (Ls : List (List Int)) (left : Int) (w : World) (hc : Rows w b off Ls) (h0 : 0 ≤ left) (h1 : left ≤ 1048576) (hl : Ls.length ≤ 9223372036854775807) (hll : ∀ i, i < Ls.length → (elS Ls i).length ≤ 9223372036854775807) :
    Calls Try.prog 24 #[.slice (some ⟨b, off, none⟩) Ls.length cap, .int .i64 left] w fun e w' => e = .returned (.int .i64 (if left < (Ls.length + tot Ls Ls.length : Nat) then -1 else left - (Ls.length + tot Ls Ls.length : Nat))) ∧ w = w' := by
  have HC := Lib.hid hc; have HLL := Lib.hid hll
  clear hc hll
  by_cases hbig : left < Ls.length
  · have hr : (if left < ((Ls.length + tot Ls Ls.length : Nat) : Int) then (-1 : Int) else left - (Ls.length + tot Ls Ls.length : Nat)) = -1 := if_pos (by omega)
    have HR := Lib.hid hr
    rw [hr]; clear hr
    go_enter Try.func24, Try.ntmps24
    go_wp2
    go_ret
    exact ⟨rfl, rfl⟩
  · obtain ⟨R, hR⟩ : ∃ R : Int, R = (if left < ((Ls.length + tot Ls Ls.length : Nat) : Int) then (-1 : Int) else left - (Ls.length + tot Ls Ls.length : Nat)) := ⟨_, rfl⟩
    rw [← hR]
    have HR := Lib.hid hR
    clear hR
    go_enter Try.func24, Try.ntmps24
    go_wp2
    go_loop [1, 5] (fun l i => ∃ (k : Nat) (z : Int), k ≤ Ls.length ∧ i = .int .i64 k ∧ l = .int .i64 z ∧ 0 ≤ z ∧ z ≤ 1048576 ∧ Hid (z = left - Ls.length - tot Ls k)) (fun _ i => Ls.length - (intOf i).toNat)
    case atStart => exact ⟨0, left - Ls.length, Nat.zero_le _, rfl, rfl, by omega, by omega, by show _ = _; simp [tot]⟩
    case round =>
      obtain ⟨k, z, hk, rfl, rfl, z0, z1, HZ⟩ := hrel
      by_cases hlt : (k : Int) < Ls.length
      · have hkl : k < Ls.length := by omega
        obtain ⟨p, c, hcell, hsl⟩ := HC.out k hkl
        have hk0 : (0 : Int) ≤ k := by omega
        have hlk := HLL.out k hkl
        have hs := szInts_any _ (elS Ls k) z w hsl z0 z1 hlk
        have hts : tot Ls (k + 1) = tot Ls k + (elS Ls k).length := rfl
        have hmo := tot_mono Ls (k + 1) Ls.length (by omega)
        by_cases hneg : z < (elS Ls k).length
        · rw [if_pos hneg] at hs
          have hRv : R = -1 := by rw [HR.out, if_pos]; have := HZ.out; omega
          have HRV := Lib.hid hRv
          clear hRv hts hmo hneg hsl hlk
          go_wp2_with (go_at_call 58; refine hs.mono ?_; rintro e w' ⟨rfl, rfl⟩)
          go_ret
          exact ⟨ret_int HRV.out.symm, rfl⟩
        · rw [if_neg hneg] at hs
          have hz2 : (0 : Int) ≤ z - (elS Ls k).length := by omega
          have hz3 : z - (elS Ls k).length ≤ 1048576 := by omega
          have HZ2 : Hid (z - (elS Ls k).length = left - Ls.length - tot Ls (k + 1)) := by show _ = _; have := HZ.out; omega
          clear hts hmo hneg hsl
          go_wp2_with (go_at_call 58; refine hs.mono ?_; rintro e w' ⟨rfl, rfl⟩)
          go_round
          case rel => exact ⟨k + 1, _, by omega, by go_num, rfl, hz2, hz3, HZ2⟩
          case measure => simp [intOf]; omega
      · obtain rfl : k = Ls.length := by omega
        have hRv : R = z := by rw [HR.out, if_neg (by have := HZ.out; omega)]; have := HZ.out; omega
        have HRV := Lib.hid hRv
        clear hRv
        go_wp2
        go_ret
        exact ⟨ret_int HRV.out.symm, rfl⟩

theorem szSS_any (v : Value) (Ls : List (List Int)) (left : Int) (w : World) (hs : SS w v Ls) (h0 : 0 ≤ left) (h1 : left ≤ 1048576) (hl : Ls.length ≤ 9223372036854775807) (hll : ∀ i, i < Ls.length → (elS Ls i).length ≤ 9223372036854775807) :
    Calls Try.prog 24 #[v, .int .i64 left] w fun e w' => e = .returned (.int .i64 (if left < (Ls.length + tot Ls Ls.length : Nat) then -1 else left - (Ls.length + tot Ls Ls.length : Nat))) ∧ w = w' := by
  by_cases h : Ls.length = 0
  · obtain rfl := List.eq_nil_of_length_eq_zero h
    rw [hs.form]
    have := szSS_nil (slPtr v) (slCap v) left w h0 h1
    simpa [tot, if_neg (show ¬ left < 0 by omega)] using this
  · obtain ⟨b, off, cap, rfl, hb, hc⟩ := hs.rows (by omega)
    exact szSS_some b off cap Ls left w hc h0 h1 hl hll
end Go.Proofs.Ytneomnkpfkomiaa
