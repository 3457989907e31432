/-
  Several texts in one: Dm Dn.
-/
import Derived.Test.YtibpnemeehkdbaaDoorRe
import Derived.Test.YtibpnemeehkdbaaDoorRm
namespace Go.Proofs.YtibpnemeehkdbaaDoor
set_option maxRecDepth 100000
open Go.RowKit

end Go.Proofs.YtibpnemeehkdbaaDoor
namespace Go.Proofs.YtibpnemeehkdbaaDoor
set_option maxRecDepth 100000
open Go.RowKit

/-- The greatest and the least reach, and the code. -/
def dmD (n : Int) (zs : List Int) : Int := if isG n zs then (if connB zs then mxF (rcF zs zs.length) zs.length else 0) else 0
def dmR (n : Int) (zs : List Int) : Int := if isG n zs then (if connB zs then mnF (rcF zs zs.length) zs.length else 0) else 0
def dmC (n : Int) (zs : List Int) : Int := if isG n zs then (if connB zs then 0 else 5) else 1
theorem conn_no {zs : List Int} {k : Nat} (hk : k < zs.length) (h : el (dsL zs 0) k < 0) : connB zs = false := by
  cases hc : connB zs with
  | false => rfl
  | true =>
    unfold connB at hc
    rw [List.all_eq_true] at hc
    have := hc k (List.mem_range.2 hk)
    simp at this; omega
theorem conn_yes {zs : List Int} (h : ∀ k, k < zs.length → 0 ≤ el (dsL zs 0) k) : connB zs = true := by
  unfold connB
  rw [List.all_eq_true]
  intro k hk
  simpa using h k (List.mem_range.1 hk)

set_option maxHeartbeats 800000 in
theorem conn2_some (n : Int) (b off cap : Nat) (zs : List Int) (w : World) (hb : b < w.heap.size) (hc : Cells w b off zs) (hg : isG n zs = true) :
    Calls Tryd.prog 30 #[.agg #[.int .i64 n, .slice (some ⟨b, off, none⟩) zs.length cap]] w fun e w' => e = .returned (.bool (connB zs)) ∧ Below w.heap.size w w' := by
  obtain ⟨p1, p2, p3, -, -⟩ := isG_parts hg
  have hm62 : zs.length ≤ 62 := by omega
  have D0 : Below w.heap.size w (w.alloc (.cells #[.int .i64 n, .slice (some ⟨b, off, none⟩) zs.length cap] 28)) := (Below.refl _ _).alloc (Nat.le_refl _) _
  have hfr := from_n n b off cap zs 0 (w.alloc (.cells #[.int .i64 n, .slice (some ⟨b, off, none⟩) zs.length cap] 28)) (Nat.lt_of_lt_of_le hb D0.size) (hc.below D0 hb) hg (by omega)
  rw [show ((0 : Nat) : Int) = 0 from rfl] at hfr
  have hpz : 0 < zs.length := by omega
  clear hc hg p3
  go_enter Tryd.func30, Tryd.ntmps30
  go_wp2_with fail
  refine hfr.mono ?_
  rintro e w1 ⟨ud, rfl, hO1, hb1⟩
  have E1 := Lib.hid (D0.trans (hb1.mono (by simp)))
  obtain ⟨gd, cd, rfl⟩ : ∃ gd cd, ud = .slice (some ⟨gd, 0, none⟩) zs.length cd := by
    rcases hO1.form with ⟨_, h0⟩ | ⟨gd, cd, h1, h2, h3⟩
    · have h4 := congrArg List.length h0
      rw [dsL_length, List.length_nil] at h4
      omega
    · rw [dsL_length] at h1
      exact ⟨gd, cd, h1⟩
  have HCD : Hid (∀ k, k < zs.length → w1.cell? ⟨gd, k, none⟩ = some (.int .i64 (el (dsL zs 0) k))) := fun k hk => by
    have h := hO1
    unfold Own at h; rw [dsL_length] at h
    exact (World.ownsRow.cellAt h k (by omega)).trans (map_at _ k (by rw [dsL_length]; omega))
  clear hb1 hfr hO1
  go_wp2
  go_loop [4] (fun i => ∃ k : Nat, k ≤ zs.length ∧ i = .int .i64 k ∧ Hid (∀ j, j < k → 0 ≤ el (dsL zs 0) j)) (fun i => zs.length - (intOf i).toNat)
  case atStart => exact ⟨0, Nat.zero_le _, rfl, fun j hj => absurd hj (by omega)⟩
  case round =>
    obtain ⟨k, hk, rfl, HA⟩ := hrel
    by_cases hlt : (k : Int) < zs.length
    · have hkl : k < zs.length := by omega
      have hk0 : (0 : Int) ≤ k := by omega
      have hcell := HCD.out k hkl
      obtain ⟨d, hd⟩ : ∃ d, d = el (dsL zs 0) k := ⟨_, rfl⟩
      rw [← hd] at hcell
      by_cases hneg : d < 0
      · have HR := Lib.hid (conn_no hkl (by rw [← hd]; exact hneg))
        clear hd
        go_wp2
        go_ret
        exact ⟨ret_bool HR.out.symm, E1.out⟩
      · have HA2 : Hid (∀ j, j < k + 1 → 0 ≤ el (dsL zs 0) j) := fun j hj => by
          rcases Nat.lt_or_ge j k with h | h
          · exact HA.out j h
          · obtain rfl : j = k := by omega
            rw [← hd]; omega
        clear hd HA
        go_wp2
        go_round
        case rel => exact ⟨k + 1, by omega, by go_num, HA2⟩
        case measure => simp [intOf]; omega
    · have hkl : k = zs.length := by omega
      have HR := Lib.hid (conn_yes (fun j hj => HA.out j (by omega)))
      go_wp2
      go_ret
      exact ⟨ret_bool HR.out.symm, E1.out⟩

end Go.Proofs.YtibpnemeehkdbaaDoor
