/-
  Marks of bases. (On the plain base.)
-/
import Derived.Test.YthonkphjahomeaaDoorMa3
import Derived.Maps.AppendAt
import Derived.Deep.AppendLies
namespace Go.Proofs.YthonkphjahomeaaDoor
set_option maxRecDepth 100000
open Go.RowKit

theorem ownsRow_below {w w' : World} {base : Nat} {e : TypeId} {size : Nat} {v : Value} {n : Nat} {xs : List Value} (h : w.ownsRow base e size v n xs) (hb : Below w.heap.size w w') : w'.ownsRow base e size v n xs :=
  World.ownsRow.kept h (grown_of_below hb none) (by cases v.ownBlock <;> simp)

set_option maxHeartbeats 1600000 in
theorem markArcs_any (g cap ka : Nat) (fs : List Int) (kk : Int) (w : World) (h : ABlk w g fs) (hk : fs.length = 3 * ka) (h0 : 0 ≤ kk) (h1 : kk ≤ 1048576) (hl : ka ≤ 1048576) :
    Calls Tryd.prog 31 #[.slice (some ⟨g, 0, none⟩) ka cap, .int .i64 kk] w fun e w' => e = .returned (.int .i64 (kk + 3 * (ka : Int))) ∧ w.grownBy w' (some g) := by
  have H := Lib.hid h; clear h
  go_enter Tryd.func31, Tryd.ntmps31
  go_wp2
  go_loopw [1, 5] (fun kv i wr => ∃ (j : Nat) (gs : List Int), j ≤ ka ∧ i = .int .i64 j ∧ kv = .int .i64 (kk + 3 * (j : Int)) ∧ gs.length = 3 * ka ∧ Hid (ABlk wr g gs) ∧ w.grownBy wr (some g)) (fun _ i _ => ka - (intOf i).toNat)
  case atStart => exact ⟨0, fs, Nat.zero_le _, rfl, by simp, hk, H, ⟨rfl, rfl, rfl, Nat.le_refl _, fun _ _ _ => rfl⟩⟩
  case round =>
    obtain ⟨j, gs, hj, rfl, rfl, hgs, HB, hgr⟩ := hrel
    by_cases hlt : (j : Int) < ka
    · have hj0 : (0 : Int) ≤ j := by omega
      have c0 : wr.cell? ⟨g, j * 3, none⟩ = some (.int .i64 (el gs (j * 3))) := HB.out.cell (by omega)
      have c1 : wr.cell? ⟨g, j * 3 + 1, none⟩ = some (.int .i64 (el gs (j * 3 + 1))) := HB.out.cell (by omega)
      have c2 : wr.cell? ⟨g, j * 3 + 2, none⟩ = some (.int .i64 (el gs (j * 3 + 2))) := HB.out.cell (by omega)
      have f0 : wr.frozen? ⟨g, j * 3, none⟩ = false := HB.out.frozen _
      have f1 : wr.frozen? ⟨g, j * 3 + 1, none⟩ = false := HB.out.frozen _
      have f2 : wr.frozen? ⟨g, j * 3 + 2, none⟩ = false := HB.out.frozen _
      have w1 : IntKind.i64.wrap (kk + 3 * (j : Int) + 1) = kk + 3 * (j : Int) + 1 := IntWalk.i64_in _ ⟨by omega, by omega⟩
      have w2 : IntKind.i64.wrap (kk + 3 * (j : Int) + 1 + 1) = kk + 3 * (j : Int) + 1 + 1 := IntWalk.i64_in _ ⟨by omega, by omega⟩
      have w3 : IntKind.i64.wrap (kk + 3 * (j : Int) + 1 + 1 + 1) = kk + 3 * (j : Int) + 1 + 1 + 1 := IntWalk.i64_in _ ⟨by omega, by omega⟩
      have HS := Lib.hid (((HB.out.set (j * 3) (kk + 3 * (j : Int))).set (j * 3 + 1) (kk + 3 * (j : Int) + 1)).set (j * 3 + 2) (kk + 3 * (j : Int) + 1 + 1))
      have hg3 := grown_set (grown_set (grown_set hgr g (j * 3) (.int .i64 (kk + 3 * (j : Int)))) g (j * 3 + 1) (.int .i64 (kk + 3 * (j : Int) + 1))) g (j * 3 + 2) (.int .i64 (kk + 3 * (j : Int) + 1 + 1))
      clear HB hgr
      go_wp2
      refine ⟨⟨j + 1, _, by omega, by go_num, ?_, ?_, HS, hg3⟩, ?_⟩
      · exact congrArg (Value.int .i64) (by omega)
      · simp [hgs]
      · simp [intOf]; omega
    · have hjk : j = ka := by omega
      subst hjk
      go_wp2
      go_ret
      exact ⟨rfl, hgr⟩

set_option maxHeartbeats 800000 in
theorem markBase_any (n m : Int) (g cap ka : Nat) (fs : List Int) (kk : Int) (w : World) (h : ABlk w g fs) (hk : fs.length = 3 * ka) (h0 : 0 ≤ kk) (h1 : kk ≤ 1048576) (hl : ka ≤ 1048576) :
    Calls Tryd.prog 17 #[.agg #[.int .i64 n, .int .i64 m, .slice (some ⟨g, 0, none⟩) ka cap], .int .i64 kk] w fun e w' => e = .returned (.int .i64 (kk + 3 * (ka : Int))) ∧ w.grownBy w' (some g) := by
  have D0 : Below w.heap.size w (w.alloc (.cells #[.int .i64 n, .int .i64 m, .slice (some ⟨g, 0, none⟩) ka cap] 31)) := (Below.refl _ _).alloc (Nat.le_refl _) _
  have hm := markArcs_any g cap ka fs kk _ (h.belowAll D0) hk h0 h1 hl
  have hg0 := Lib.hid (World.grownBy_alloc w (.cells #[.int .i64 n, .int .i64 m, .slice (some ⟨g, 0, none⟩) ka cap] 31) (some g))
  clear h D0
  go_enter Tryd.func17, Tryd.ntmps17
  go_wp2_with (go_at_call 31; refine hm.mono ?_; rintro e w1 ⟨rfl, hM⟩; have HM := Lib.hid hM; clear hM)
  go_ret
  exact ⟨rfl, grown_trans hg0.out HM.out⟩

end Go.Proofs.YthonkphjahomeaaDoor
