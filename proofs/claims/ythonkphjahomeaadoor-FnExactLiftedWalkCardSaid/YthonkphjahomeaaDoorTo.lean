/-
  The laws' helper that copies a list of numbers. (A plain seat.)
-/
import Derived.Test.YthonkphjahomeaaDoorPg
namespace Go.Proofs.YthonkphjahomeaaDoor
set_option maxRecDepth 100000
open Go.RowKit

set_option maxHeartbeats 800000 in
theorem toInts_nil (a : Option Addr) (c : Nat) (w : World) :
    Calls Tryd.prog 9 #[.slice a 0 c] w fun e w' => e = .returned (.slice (some ⟨w.heap.size, 0, none⟩) 0 0) ∧ Blk w' w.heap.size [] ∧ Below w.heap.size w w' := by
  have hmk := fun W => run_mkInts 0 (by omega) W
  simp only [List.replicate_zero, Int.natCast_zero] at hmk
  go_enter Tryd.func9, Tryd.ntmps9
  go_wp2
  clear hmk
  go_loopw [4] (fun i wr => i = .int .i64 0 ∧ Blk wr w.heap.size [] ∧ Below w.heap.size w wr) (fun i _ => 0)
  case atStart => exact ⟨rfl, Blk.new w _, (Below.refl _ _).alloc (Nat.le_refl _) _⟩
  case round =>
    obtain ⟨rfl, hB, hb⟩ := hrel
    have HB := Lib.hid hB; clear hB
    go_wp2
    go_ret
    exact ⟨rfl, HB.out, hb⟩

set_option maxHeartbeats 800000 in
theorem toInts_some (b off cap : Nat) (zs : List Int) (w : World) (hbl : b < w.heap.size) (hc : Cells w b off zs) (hl : zs.length ≤ 1048576) :
    Calls Tryd.prog 9 #[.slice (some ⟨b, off, none⟩) zs.length cap] w fun e w' => e = .returned (.slice (some ⟨w.heap.size, 0, none⟩) zs.length zs.length) ∧ Blk w' w.heap.size zs ∧ Below w.heap.size w w' := by
  have hmk := run_mkInts zs.length hl
  have HC := Lib.hid hc; clear hc
  go_enter Tryd.func9, Tryd.ntmps9
  go_wp2
  clear hmk
  go_loopw [4] (fun i wr => ∃ k : Nat, k ≤ zs.length ∧ i = .int .i64 k ∧ Blk wr w.heap.size (part zs k) ∧ Below w.heap.size w wr) (fun i _ => zs.length - (intOf i).toNat)
  case atStart => exact ⟨0, Nat.zero_le _, rfl, by rw [part_zero]; exact Blk.new w _, (Below.refl _ _).alloc (Nat.le_refl _) _⟩
  case round =>
    obtain ⟨k, hk, rfl, hB, hb⟩ := hrel
    by_cases hlt : (k : Int) < zs.length
    · have hki : k < zs.length := by omega
      have hpl := part_length zs k hk
      have HB := Lib.hid hB
      have hcell : wr.cell? ⟨w.heap.size, k, none⟩ = some (.int .i64 (el (part zs k) k)) := hB.cell (by omega)
      have hfr : wr.frozen? ⟨w.heap.size, k, none⟩ = false := hB.frozen k
      have hz : wr.cell? ⟨b, off + k, none⟩ = some (.int .i64 (el zs k)) := (hb.cell (p := ⟨b, off + k, none⟩) hbl).trans (HC.out k hki)
      have HS : Hid (Blk (wr.setCell ⟨w.heap.size, k, none⟩ (.int .i64 (el zs k))) w.heap.size (part zs (k + 1))) := by show Blk _ _ _; rw [← part_succ zs k hki]; exact hB.set k _
      clear hB hpl
      have hk0 : (0 : Int) ≤ k := by omega
      go_wp2
      go_roundw
      case rel => exact ⟨k + 1, by omega, by go_num, HS.out, hb.setCell (p := ⟨w.heap.size, k, none⟩) (Nat.le_refl _) _⟩
      case measure => simp [intOf]; omega
    · have hkl : k = zs.length := by omega
      subst hkl
      have HB := Lib.hid hB; clear hB
      go_wp2
      go_ret
      exact ⟨rfl, by have := HB.out; rw [part_all] at this; exact this, hb⟩

theorem toInts_any (v : Value) (zs : List Int) (w : World) (hs : Sl w v zs) (hl : zs.length ≤ 1048576) :
    Calls Tryd.prog 9 #[v] w fun e w' => e = .returned (.slice (some ⟨w.heap.size, 0, none⟩) zs.length zs.length) ∧ Blk w' w.heap.size zs ∧ Below w.heap.size w w' := by
  rcases hs with ⟨a, c, rfl, rfl⟩ | ⟨b, off, cap, rfl, hbl, hc⟩
  · exact toInts_nil a c w
  · exact toInts_some b off cap zs w hbl hc hl

end Go.Proofs.YthonkphjahomeaaDoor
