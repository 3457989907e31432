/-
  The codes of a graph and vertices in chapter 2: both programs.
-/
import Derived.Test.YtlodaeoikkjbkaaDoorOn1
namespace Go.Proofs.YtlodaeoikkjbkaaDoor
set_option maxRecDepth 100000
open Go.RowKit

set_option maxHeartbeats 1600000 in
theorem code2_some (n : Int) (b off cap : Nat) (zs : List Int) (b2 off2 cap2 : Nat) (vs : List Int) (w : World) (hb : b < w.heap.size) (hc : Cells w b off zs) (hb2 : b2 < w.heap.size) (hc2 : Cells w b2 off2 vs) (hg : isG n zs = true) (hl : zs.length ≤ 9223372036854775807) (hl2 : vs.length ≤ 9223372036854775806) :
    Calls Tryd.prog 34 #[.agg #[.int .i64 n, .slice (some ⟨b, off, none⟩) zs.length cap], .slice (some ⟨b2, off2, none⟩) vs.length cap2] w fun e w' => e = .returned (.int .i64 (vc n vs)) ∧ Below w.heap.size w w' := by
  have D0 : Below w.heap.size w (w.alloc (.cells #[.int .i64 n, .slice (some ⟨b, off, none⟩) zs.length cap] 28)) := (Below.refl _ _).alloc (Nat.le_refl _) _
  have his := l01Is_some n b off cap zs _ (Nat.lt_of_lt_of_le hb D0.size) (hc.below D0 hb) hl
  rw [hg] at his
  have HG0 := Lib.hid (GBox.new (n := n) (cap := cap) hb hc)
  obtain ⟨h1a, h1b, -, -, -⟩ := isG_parts hg
  have HC2 := Lib.hid hc2
  clear hc hc2 hg
  go_enter Tryd.func34, Tryd.ntmps34
  go_wp2_with (go_at_call 38; refine his.mono ?_; rintro e w1 ⟨rfl, hb1⟩; have G1 := HG0.out.below (hb1.mono (by simp)); have b0 := G1.b0; have b1 := G1.b1)
  have E1 : Below w.heap.size w w1 := D0.trans (hb1.mono (by simp))
  clear hb1 his
  go_loopw [5] (fun i wr => ∃ k : Nat, k ≤ vs.length ∧ i = .int .i64 k ∧ Hid (vsOk n vs k = true) ∧ Below w1.heap.size w1 wr) (fun i _ => vs.length - (intOf i).toNat)
  case atStart => exact ⟨0, Nat.zero_le _, rfl, vsOk_zero n vs, Below.refl _ _⟩
  case round =>
    obtain ⟨k, hk, rfl, HO, hB⟩ := hrel
    have G2 := G1.below (hB.mono G1.lt)
    have b0 := G2.b0
    have b1 := G2.b1
    by_cases hlt : (k : Int) < vs.length
    · have hkl : k < vs.length := by omega
      have hz : wr.cell? ⟨b2, off2 + k, none⟩ = some (.int .i64 (el vs k)) := ((E1.trans (hB.mono E1.size)).cell (p := ⟨b2, off2 + k, none⟩) hb2).trans (HC2.out k hkl)
      have hk0 : (0 : Int) ≤ k := by omega
      by_cases hin : 0 ≤ el vs k ∧ el vs k ≤ n - 1
      · have HN : Hid (vsOk n vs (k + 1) = true) := by
          show _ = _; rw [vsOk_succ, HO.out]; simp [hin]
        have hcall : ∀ W, Calls Tryd.prog 39 #[.int .i64 (el vs k), .int .i64 0, .int .i64 (n - 1)] W fun e w' => e = .returned (.bool true) ∧ W = w' := fun W => by
          have := in_any (el vs k) 0 (n - 1) W
          simpa [hin] using this
        have hw : IntKind.i64.wrap (n - 1) = n - 1 := IntWalk.i64_in _ ⟨by omega, by omega⟩
        clear hin HO
        go_wp2
        go_quiet ((go_at_call 39; exact qsame (hcall _)))
        clear hw
        go_wp2
        go_roundw
        case rel => exact ⟨k + 1, by omega, by go_num, HN, drewN_below hB _⟩
        case measure => simp [intOf]; omega
      · have HN : Hid (vsOk n vs vs.length = false) := vsOk_no hkl hin
        have hcall : ∀ W, Calls Tryd.prog 39 #[.int .i64 (el vs k), .int .i64 0, .int .i64 (n - 1)] W fun e w' => e = .returned (.bool false) ∧ W = w' := fun W => by
          have := in_any (el vs k) 0 (n - 1) W
          rw [← Bool.decide_and, decide_eq_false hin] at this
          exact this
        have hw : IntKind.i64.wrap (n - 1) = n - 1 := IntWalk.i64_in _ ⟨by omega, by omega⟩
        clear hin HO
        go_wp2
        go_quiet ((go_at_call 39; exact qsame (hcall _)))
        clear hw
        go_wp2
        go_ret
        exact ⟨ret_int (vc_no HN.out).symm, E1.trans ((drewN_below hB _).mono E1.size)⟩
    · have hkl : k = vs.length := by omega
      subst hkl
      go_wp2
      go_ret
      exact ⟨ret_int (vc_yes HO.out).symm, E1.trans (hB.mono E1.size)⟩

set_option maxHeartbeats 800000 in
theorem code2_no (n : Int) (v u : Value) (zs : List Int) (w : World) (h : Sl w v zs) (hg : isG n zs = false) (hl : zs.length ≤ 9223372036854775807) :
    Calls Tryd.prog 34 #[.agg #[.int .i64 n, v], u] w fun e w' => e = .returned (.int .i64 1) ∧ Below w.heap.size w w' := by
  have D0 : Below w.heap.size w (w.alloc (.cells #[.int .i64 n, v] 28)) := (Below.refl _ _).alloc (Nat.le_refl _) _
  have his := l01Is_any n v zs _ (h.below D0) hl
  rw [hg] at his
  clear hg h
  go_enter Tryd.func34, Tryd.ntmps34
  go_wp2_with (go_at_call 38; refine his.mono ?_; rintro e w1 ⟨rfl, hb1⟩)
  go_ret
  exact ⟨rfl, D0.trans (hb1.mono (by simp))⟩

end Go.Proofs.YtlodaeoikkjbkaaDoor
