/-
  When a digraph is one: spec.l08Is, spec.IsDigraph.
-/
import Derived.Test.YtbncfhmpkoaffaaDoorMem
import Derived.Deep.RegionHeld3
import Derived.Deep.RegionWith
import Derived.Lib.Hide
namespace Go.Proofs.YtbncfhmpkoaffaaDoor
set_option maxRecDepth 100000
set_option maxRecDepth 100000
open Go.RowKit

/-- A row of a digraph of n vertices. -/
def drB (n z : Int) : Bool := decide (0 ≤ z) && decide (z ≤ 2 ^ n.toNat - 1)
theorem drB_iff (n z : Int) : drB n z = true ↔ 0 ≤ z ∧ z ≤ 2 ^ n.toNat - 1 := by simp [drB]
def drTo (n : Int) (zs : List Int) (k : Nat) : Bool := (List.range k).all fun i => drB n (el zs i)
theorem drTo_succ (n : Int) (zs : List Int) (k : Nat) : drTo n zs (k + 1) = (drTo n zs k && drB n (el zs k)) := by simp [drTo, List.range_succ]
theorem drTo_at {n : Int} {zs : List Int} {k : Nat} (h : drTo n zs k = true) {i : Nat} (hi : i < k) : 0 ≤ el zs i ∧ el zs i ≤ 2 ^ n.toNat - 1 := by
  unfold drTo at h; rw [List.all_eq_true] at h
  exact (drB_iff _ _).1 (h i (List.mem_range.2 hi))
/-- When a size and rows are a digraph. -/
def isD (n : Int) (zs : List Int) : Bool := decide (1 ≤ n) && decide (n ≤ 62) && decide ((zs.length : Int) = n) && drTo n zs zs.length
theorem isD_row {n : Int} {zs : List Int} {k : Nat} (hk : k < zs.length) (h : drB n (el zs k) = false) : isD n zs = false := by
  cases e : isD n zs with
  | false => rfl
  | true =>
    unfold isD at e
    simp only [Bool.and_eq_true] at e
    rw [(drB_iff _ _).2 (drTo_at e.2 hk)] at h
    exact absurd h (by simp)
theorem isD_parts {n : Int} {zs : List Int} (h : isD n zs = true) : 1 ≤ n ∧ n ≤ 62 ∧ (zs.length : Int) = n ∧ drTo n zs zs.length = true := by
  unfold isD at h
  simpa [and_assoc] using h
theorem isD_mk {n : Int} {zs : List Int} (h1 : 1 ≤ n) (h2 : n ≤ 62) (h3 : (zs.length : Int) = n) (h4 : drTo n zs zs.length = true) : isD n zs = true := by
  unfold isD; simp [h1, h2, h3, h4]
theorem isD_far {n : Int} {zs : List Int} (h : ¬ (1 ≤ n ∧ n ≤ 62)) : isD n zs = false := by
  cases e : isD n zs with
  | false => rfl
  | true => obtain ⟨a, b, _⟩ := isD_parts e; exact absurd ⟨a, b⟩ h
theorem isD_len {n : Int} {zs : List Int} (h : ¬ (zs.length : Int) = n) : isD n zs = false := by
  cases e : isD n zs with
  | false => rfl
  | true => obtain ⟨_, _, a, _⟩ := isD_parts e; exact absurd a h
theorem GBox.newD {w : World} {n : Int} {b off cap : Nat} {zs : List Int} (hb : b < w.heap.size) (hc : Cells w b off zs) :
    GBox (w.alloc (.cells #[.int .i64 n, .slice (some ⟨b, off, none⟩) zs.length cap] 29)) w.heap.size n b off cap zs :=
  ⟨by simp, by simp, fun i hi => (World.cell?_alloc_lt _ _ _ hb).trans (hc i hi), Nat.le_of_lt hb, by simp⟩

set_option maxHeartbeats 1600000 in
theorem l08Is_some (n : Int) (b off cap : Nat) (zs : List Int) (w : World) (hb : b < w.heap.size) (hc : Cells w b off zs) (hl : zs.length ≤ 9223372036854775807) :
    Calls Tryd.prog 42 #[.agg #[.int .i64 n, .slice (some ⟨b, off, none⟩) zs.length cap]] w fun e w' => e = .returned (.bool (isD n zs)) ∧ Below w.heap.size w w' := by
  by_cases h1 : 1 ≤ n ∧ n ≤ 62
  · have e1 : (!(decide (1 ≤ n) && decide (n ≤ 62))) = false := by simp [h1]
    by_cases h2 : (zs.length : Int) = n
    · have e2 : ((zs.length : Int) != n) = false := by simpa using h2
      have hc' : Hid (Cells w b off zs) := hc
      clear hc
      obtain ⟨h1a, h1b⟩ := h1
      have H2 : Hid ((zs.length : Int) = n) := h2
      clear h2
      obtain ⟨p1, p2⟩ := pow_bounds n.toNat (by omega)
      go_enter Tryd.func42, Tryd.ntmps42
      go_wp2_with (go_at_call 60; refine (in_any _ _ _ _).mono ?_; rintro e w' ⟨rfl, rfl⟩)
      go_loopw [3] (fun i wr => ∃ k : Nat, k ≤ zs.length ∧ i = .int .i64 k ∧ Hid (drTo n zs k = true) ∧ Below (w.heap.size + 1) (w.alloc (.cells #[.int .i64 n, .slice (some ⟨b, off, none⟩) zs.length cap] 29)) wr) (fun i _ => zs.length - (intOf i).toNat)
      case atStart => exact ⟨0, Nat.zero_le _, rfl, rfl, Below.refl _ _⟩
      case round =>
        obtain ⟨k, hk, rfl, HR, hB⟩ := hrel
        have G0 := (GBox.newD (n := n) (cap := cap) hb hc'.out).below hB
        have b0 := G0.b0
        have b1 := G0.b1
        by_cases hlt : (k : Int) < zs.length
        · have hki : k < zs.length := by omega
          have hz : wr.cell? ⟨b, off + k, none⟩ = some (.int .i64 (el zs k)) := G0.cells k hki
          have hk0 : (0 : Int) ≤ k := by omega
          have wu := u64_small n (by omega) h1b
          have wm := min_small n h1b
          have wp := i64_pow n h1b
          have wq := i64_pow1 n h1b
          have hn0 : 0 ≤ n := by omega
          have hin : ∀ r W, drB n (el zs k) = r → Calls Tryd.prog 60 #[.int .i64 (el zs k), .int .i64 0, .int .i64 (2 ^ n.toNat - 1)] W fun e w' => e = .returned (.bool r) ∧ W = w' := fun r W h => by
            have := in_any (el zs k) 0 (2 ^ n.toNat - 1) W
            unfold drB at h; rw [h] at this; exact this
          cases hr : drB n (el zs k) with
          | true =>
            have hi2 := fun W => hin true W hr
            have HO : Hid (drTo n zs (k + 1) = true) := by show _ = _; rw [drTo_succ, HR.out, hr]; rfl
            clear hr hin
            go_wp2_with fail
            go_quiet ((go_at_call 60; exact qsame (hi2 _)))
            clear wu wm wp wq hi2
            go_wp2
            go_roundw
            case rel => exact ⟨k + 1, by omega, by go_num, HO, drewN_below hB _⟩
            case measure => simp [intOf]; omega
          | false =>
            have hi2 := fun W => hin false W hr
            have E3 : Hid (isD n zs = false) := isD_row hki hr
            clear hr hin
            go_wp2_with fail
            go_quiet ((go_at_call 60; exact qsame (hi2 _)))
            clear wu wm wp wq hi2
            go_wp2
            go_ret
            exact ⟨ret_bool E3.out.symm, ((Below.refl _ _).alloc (Nat.le_refl _) _).trans ((drewN_below hB _).mono (by simp))⟩
        · obtain rfl : k = zs.length := by omega
          have E3 : Hid (isD n zs = true) := isD_mk h1a h1b H2.out HR.out
          go_wp2
          go_ret
          exact ⟨ret_bool E3.out.symm, ((Below.refl _ _).alloc (Nat.le_refl _) _).trans (hB.mono (by simp))⟩
    · have e2 : ((zs.length : Int) != n) = true := by simpa using h2
      rw [isD_len h2]; clear hc
      go_enter Tryd.func42, Tryd.ntmps42
      go_wp2_with (go_at_call 60; refine (in_any _ _ _ _).mono ?_; rintro e w' ⟨rfl, rfl⟩)
      go_ret
      exact ⟨rfl, (Below.refl _ _).alloc (Nat.le_refl _) _⟩
  · have e1 : (!(decide (1 ≤ n) && decide (n ≤ 62))) = true := by simp; omega
    rw [isD_far h1]; clear hc
    go_enter Tryd.func42, Tryd.ntmps42
    go_wp2_with (go_at_call 60; refine (in_any _ _ _ _).mono ?_; rintro e w' ⟨rfl, rfl⟩)
    go_ret
    exact ⟨rfl, (Below.refl _ _).alloc (Nat.le_refl _) _⟩

theorem isD_nil (n : Int) : isD n [] = false := by
  cases e : isD n [] with
  | false => rfl
  | true => obtain ⟨a, _, b, _⟩ := isD_parts e; simp at b; omega

set_option maxHeartbeats 400000 in
theorem l08Is_nil (n : Int) (a : Option Addr) (c : Nat) (w : World) :
    Calls Tryd.prog 42 #[.agg #[.int .i64 n, .slice a 0 c]] w fun e w' => e = .returned (.bool (isD n [])) ∧ Below w.heap.size w w' := by
  rw [isD_nil]
  by_cases h1 : 1 ≤ n ∧ n ≤ 62
  · have e1 : (!(decide (1 ≤ n) && decide (n ≤ 62))) = false := by simp [h1]
    have e2 : ((0 : Int) != n) = true := by rw [bne_iff_ne]; omega
    go_enter Tryd.func42, Tryd.ntmps42
    go_wp2_with (go_at_call 60; refine (in_any _ _ _ _).mono ?_; rintro e w' ⟨rfl, rfl⟩)
    go_ret
    exact ⟨rfl, (Below.refl _ _).alloc (Nat.le_refl _) _⟩
  · have e1 : (!(decide (1 ≤ n) && decide (n ≤ 62))) = true := by simp; omega
    go_enter Tryd.func42, Tryd.ntmps42
    go_wp2_with (go_at_call 60; refine (in_any _ _ _ _).mono ?_; rintro e w' ⟨rfl, rfl⟩)
    go_ret
    exact ⟨rfl, (Below.refl _ _).alloc (Nat.le_refl _) _⟩

theorem l08Is_any (n : Int) (v : Value) (zs : List Int) (w : World) (h : Sl w v zs) (hl : zs.length ≤ 9223372036854775807) :
    Calls Tryd.prog 42 #[.agg #[.int .i64 n, v]] w fun e w' => e = .returned (.bool (isD n zs)) ∧ Below w.heap.size w w' := by
  rcases h with ⟨a, c, rfl, rfl⟩ | ⟨b, off, cap, rfl, hb, hc⟩
  · exact l08Is_nil n a c w
  · exact l08Is_some n b off cap zs w hb hc hl

end Go.Proofs.YtbncfhmpkoaffaaDoor
