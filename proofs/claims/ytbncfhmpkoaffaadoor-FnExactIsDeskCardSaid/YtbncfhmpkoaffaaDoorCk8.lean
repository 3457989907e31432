/-
  The door of digraphs: impl.mustBeDigraph, which panics with an error where there is none, impl.checkDigraph, which recovers; impl.IsDigraph.
-/
import Derived.Test.YtbncfhmpkoaffaaDoorIs8
import Derived.Test.YtbncfhmpkoaffaaDoorInts
import Derived.Recover
import Derived.Defers
import Derived.Laws.Pointers
import Derived.WalkLawsBesides
namespace Go.Proofs.YtbncfhmpkoaffaaDoor
set_option maxRecDepth 100000
set_option maxRecDepth 100000
open Go.RowKit

/-- The error of the door in its variable. -/
def ErrV (w : World) : Prop := ∃ a : Addr, w.cell? ⟨0, 0, none⟩ = some (.iface 93 (.pointer (some a)))
theorem ErrV.lt {w : World} (h : ErrV w) : 0 < w.heap.size := by
  obtain ⟨a, h⟩ := h
  exact World.block_lt_of_cell? w _ h
theorem ErrV.belowAll {w w' : World} (h : ErrV w) (hb : Below w.heap.size w w') : ErrV w' := by
  have hl := h.lt
  obtain ⟨a, h⟩ := h
  exact ⟨a, (hb.cell (p := ⟨0, 0, none⟩) hl).trans h⟩

set_option maxHeartbeats 1600000 in
theorem must_yes (n : Int) (b off cap : Nat) (zs : List Int) (w : World) (hb : b < w.heap.size) (hc : Cells w b off zs) (hl : zs.length ≤ 9223372036854775807) (hd : isD n zs = true) :
    Calls Tryd.prog 73 #[.agg #[.int .i64 n, .slice (some ⟨b, off, none⟩) zs.length cap]] w fun e w' => e = .returned (.tuple #[]) ∧ Below w.heap.size w w' := by
  obtain ⟨h1a, h1b, h2, h3⟩ := isD_parts hd
  have e1 : (!(decide (1 ≤ n) && decide (n ≤ 62))) = false := by simp [h1a, h1b]
  have e2 : ((zs.length : Int) != n) = false := by simpa using h2
  have hc' : Hid (Cells w b off zs) := hc
  have H2 : Hid ((zs.length : Int) = n) := h2
  have H3 := Lib.hid h3
  clear hc h2 h3 hd
  obtain ⟨p1, p2⟩ := pow_bounds n.toNat (by omega)
  go_enter Tryd.func73, Tryd.ntmps73
  go_wp2_with (go_at_call 82; refine (isSize_any _ _).mono ?_; rintro e w' ⟨rfl, rfl⟩)
  go_loopw [3, 20] (fun _ i wr => ∃ k : Nat, k ≤ zs.length ∧ i = .int .i64 k ∧ Below (w.heap.size + 1) (w.alloc (.cells #[.int .i64 n, .slice (some ⟨b, off, none⟩) zs.length cap] 29)) wr) (fun _ i _ => zs.length - (intOf i).toNat)
  case atStart => exact ⟨0, Nat.zero_le _, rfl, Below.refl _ _⟩
  case round =>
    obtain ⟨k, hk, rfl, hB⟩ := hrel
    have G0 := (GBox.newD (n := n) (cap := cap) hb hc'.out).below hB
    have b0 := G0.b0
    have b1 := G0.b1
    by_cases hlt : (k : Int) < zs.length
    · have hki : k < zs.length := by omega
      have hz : wr.cell? ⟨b, off + k, none⟩ = some (.int .i64 (el zs k)) := G0.cells k hki
      have hk0 : (0 : Int) ≤ k := by omega
      have hn0 : 0 ≤ n := by omega
      obtain ⟨z0, z1⟩ := drTo_at H3.out hki
      have hd1 : decide (el zs k < 0) = false := by simp; omega
      have hd2 : decide (2 ^ n.toNat - 1 < el zs k) = false := by simp; omega
      go_wp2_with (go_at_call 59; refine (allV_any _ _ hn0 h1b).mono ?_; rintro e w' ⟨rfl, rfl⟩)
      go_roundw
      case rel => exact ⟨k + 1, by omega, by go_num, hB⟩
      case measure => simp [intOf]; omega
    · obtain rfl : k = zs.length := by omega
      go_wp2
      first | go_end0 | (refine bodyPost_ret (results_none rfl _ _ _) rfl ?_)
      exact ⟨rfl, ((Below.refl _ _).alloc (Nat.le_refl _) _).trans (hB.mono (by simp))⟩

/-- What the door panics with. -/
def Pnc (a : Addr) (e : Ending) : Prop := e = .panicked [{ v := .iface 93 (.pointer (some a)), recovered := false }]

set_option maxHeartbeats 1600000 in
theorem must_far (n : Int) (p : Option Addr) (len cap : Nat) (w : World) (a : Addr) (hE : w.cell? ⟨0, 0, none⟩ = some (.iface 93 (.pointer (some a)))) (h : ¬ (1 ≤ n ∧ n ≤ 62) ∨ (1 ≤ n ∧ n ≤ 62 ∧ ¬ (len : Int) = n)) :
    Calls Tryd.prog 73 #[.agg #[.int .i64 n, .slice p len cap]] w fun e w' => Pnc a e ∧ Below w.heap.size w w' := by
  have hE2 : (w.alloc (.cells #[.int .i64 n, .slice p len cap] 29)).cell? ⟨0, 0, none⟩ = some (.iface 93 (.pointer (some a))) := (World.cell?_alloc_lt _ _ _ (World.block_lt_of_cell? w _ hE)).trans hE
  have D0 : Below w.heap.size w (w.alloc (.cells #[.int .i64 n, .slice p len cap] 29)) := (Below.refl _ _).alloc (Nat.le_refl _) _
  have HD := Lib.hid D0
  clear D0 hE
  rcases h with h | ⟨h1, h2, h3⟩
  · have e1 : (!(decide (1 ≤ n) && decide (n ≤ 62))) = true := by simp; omega
    clear h
    go_enter Tryd.func73, Tryd.ntmps73
    go_wp2_with (go_at_call 82; refine (isSize_any _ _).mono ?_; rintro e w' ⟨rfl, rfl⟩)
    exact ⟨rfl, rfl, HD.out⟩
  · have e1 : (!(decide (1 ≤ n) && decide (n ≤ 62))) = false := by simp [h1, h2]
    have e2 : ((len : Int) != n) = true := by simpa using h3
    clear h1 h2 h3
    go_enter Tryd.func73, Tryd.ntmps73
    go_wp2_with (go_at_call 82; refine (isSize_any _ _).mono ?_; rintro e w' ⟨rfl, rfl⟩)
    exact ⟨rfl, rfl, HD.out⟩

set_option maxHeartbeats 1600000 in
theorem must_row (n : Int) (b off cap : Nat) (zs : List Int) (w : World) (a : Addr) (hE : w.cell? ⟨0, 0, none⟩ = some (.iface 93 (.pointer (some a)))) (hb : b < w.heap.size) (hc : Cells w b off zs) (hl : zs.length ≤ 9223372036854775807) (h1a : 1 ≤ n) (h1b : n ≤ 62) (h2 : (zs.length : Int) = n) (hd : drTo n zs zs.length = false) :
    Calls Tryd.prog 73 #[.agg #[.int .i64 n, .slice (some ⟨b, off, none⟩) zs.length cap]] w fun e w' => Pnc a e ∧ Below w.heap.size w w' := by
  have e1 : (!(decide (1 ≤ n) && decide (n ≤ 62))) = false := by simp [h1a, h1b]
  have e2 : ((zs.length : Int) != n) = false := by simpa using h2
  have hc' : Hid (Cells w b off zs) := hc
  have H2 : Hid ((zs.length : Int) = n) := h2
  have H3 := Lib.hid hd
  have HE := Lib.hid hE
  have hEl := World.block_lt_of_cell? w _ hE
  clear hc h2 hd hE
  obtain ⟨p1, p2⟩ := pow_bounds n.toNat (by omega)
  go_enter Tryd.func73, Tryd.ntmps73
  go_wp2_with (go_at_call 82; refine (isSize_any _ _).mono ?_; rintro e w' ⟨rfl, rfl⟩)
  go_loopw [3, 20] (fun _ i wr => ∃ k : Nat, k ≤ zs.length ∧ i = .int .i64 k ∧ Hid (drTo n zs k = true) ∧ Below (w.heap.size + 1) (w.alloc (.cells #[.int .i64 n, .slice (some ⟨b, off, none⟩) zs.length cap] 29)) wr) (fun _ i _ => zs.length - (intOf i).toNat)
  case atStart => exact ⟨0, Nat.zero_le _, rfl, rfl, Below.refl _ _⟩
  case round =>
    obtain ⟨k, hk, rfl, HR, hB⟩ := hrel
    have G0 := (GBox.newD (n := n) (cap := cap) hb hc'.out).below hB
    have b0 := G0.b0
    have b1 := G0.b1
    by_cases hlt : (k : Int) < zs.length
    · have hki : k < zs.length := by omega
      have hz : wr.cell? ⟨b, off + k, none⟩ = some (.int .i64 (el zs k)) := G0.cells k hki
      have hk0 : (0 : Int) ≤ k := by omega
      have hn0 : 0 ≤ n := by omega
      have hE2 : wr.cell? ⟨0, 0, none⟩ = some (.iface 93 (.pointer (some a))) := (hB.cell (p := ⟨0, 0, none⟩) (Nat.lt_succ_of_lt hEl)).trans ((World.cell?_alloc_lt _ _ _ hEl).trans HE.out)
      have HB : Hid (Below w.heap.size w wr) := ((Below.refl _ _).alloc (Nat.le_refl _) _).trans (hB.mono (by simp))
      by_cases z0 : el zs k < 0
      · have hd1 : decide (el zs k < 0) = true := by simpa using z0
        go_wp2_with (go_at_call 59; refine (allV_any _ _ hn0 h1b).mono ?_; rintro e w' ⟨rfl, rfl⟩)
        exact ⟨rfl, rfl, HB.out⟩
      · have hd1 : decide (el zs k < 0) = false := by simpa using z0
        by_cases z1 : 2 ^ n.toNat - 1 < el zs k
        · have hd2 : decide (2 ^ n.toNat - 1 < el zs k) = true := by simpa using z1
          go_wp2_with (go_at_call 59; refine (allV_any _ _ hn0 h1b).mono ?_; rintro e w' ⟨rfl, rfl⟩)
          exact ⟨rfl, rfl, HB.out⟩
        · have hd2 : decide (2 ^ n.toNat - 1 < el zs k) = false := by simpa using z1
          have HO : Hid (drTo n zs (k + 1) = true) := by
            show _ = _; rw [drTo_succ, HR.out, (drB_iff _ _).2 ⟨by omega, by omega⟩]; rfl
          go_wp2_with (go_at_call 59; refine (allV_any _ _ hn0 h1b).mono ?_; rintro e w' ⟨rfl, rfl⟩)
          go_roundw
          case rel => exact ⟨k + 1, by omega, by go_num, HO, hB⟩
          case measure => simp [intOf]; omega
    · obtain rfl : k = zs.length := by omega
      have := HR.out
      rw [H3.out] at this
      exact absurd this (by simp)

theorem must_no (n : Int) (v : Value) (zs : List Int) (w : World) (a : Addr) (hE : w.cell? ⟨0, 0, none⟩ = some (.iface 93 (.pointer (some a)))) (h : Sl w v zs) (hl : zs.length ≤ 9223372036854775807) (hd : isD n zs = false) :
    Calls Tryd.prog 73 #[.agg #[.int .i64 n, v]] w fun e w' => Pnc a e ∧ Below w.heap.size w w' := by
  by_cases h1 : 1 ≤ n ∧ n ≤ 62
  · by_cases h2 : (zs.length : Int) = n
    · cases hr : drTo n zs zs.length with
      | true => rw [isD_mk h1.1 h1.2 h2 hr] at hd; exact absurd hd (by simp)
      | false =>
        rcases h with ⟨_, _, rfl, rfl⟩ | ⟨b, off, cap, rfl, hb, hc⟩
        · simp at h2; omega
        · exact must_row n b off cap zs w a hE hb hc hl h1.1 h1.2 h2 hr
    · rw [slForm h]
      exact must_far n _ _ _ w a hE (.inr ⟨h1.1, h1.2, h2⟩)
  · rw [slForm h]
    exact must_far n _ _ _ w a hE (.inl h1)
end Go.Proofs.YtbncfhmpkoaffaaDoor
