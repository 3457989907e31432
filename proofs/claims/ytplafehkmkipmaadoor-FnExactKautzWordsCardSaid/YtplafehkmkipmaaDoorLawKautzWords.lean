/-
  laws.FnExactKautzWords: the walk: for every argument that comes in the law returns true and leaves what was there.
-/
import Derived.Test.YtplafehkmkipmaaDoorKz5
import Derived.Deep.RegionHeld3
import Derived.Deep.DeepCutAuto
namespace Go.Proofs.YtplafehkmkipmaaDoor.fnExactKautzWords
open Go.RowKit

theorem tot_le (Ls : List (List Int)) (m : Nat) : ∀ k, (∀ i, i < k → (elS Ls i).length ≤ m) → tot Ls k ≤ m * k
  | 0, _ => Nat.le_refl _
  | k + 1, h => by
    have h1 := tot_le Ls m k (fun i hi => h i (by omega))
    have h2 := h k (by omega)
    show tot Ls k + (elS Ls k).length ≤ m * (k + 1)
    rw [Nat.mul_add]; omega
theorem ss_slice {w : World} {v : Value} {Ls : List (List Int)} (h : SS w v Ls) : ∃ a c, v = .slice a Ls.length c := ⟨_, _, h.form⟩

set_option maxHeartbeats 6400000 in
set_option maxRecDepth 100000 in
theorem law (x0 x1 : Int) (w : World) (hT : Tab w) :
    Calls Tryd.prog 3 #[.int .i64 x0, .int .i64 x1] w fun e w' => e = .returned (.bool true) ∧ Below w.heap.size w w' := by
  obtain ⟨hp1, hp2⟩ := KzL_sizes x0 x1
  have hp3 := tot_le (KzL x0 x1) 10 _ hp2
  obtain ⟨D, hd⟩ : ∃ d, d = KzL x0 x1 := ⟨_, rfl⟩
  obtain ⟨c, hc⟩ : ∃ c, c = KzC x0 x1 := ⟨_, rfl⟩
  rw [← hd] at hp1 hp2 hp3
  have hT : D.length + tot D D.length ≤ 1048576 := by omega
  have hll : ∀ i, i < D.length → (elS D i).length ≤ 9223372036854775807 := fun i hi => Nat.le_trans (hp2 i hi) (by decide)
  have hl : D.length ≤ 9223372036854775807 := by omega
  have hm0 : (0 : Int) ≤ 1 + (tot D D.length : Int) := by omega
  have hm1 : tot D D.length ≤ 1048576 := by omega
  have HD := Lib.hid hd; have HC := Lib.hid hc; have HT := Lib.hid hT; have HLL := Lib.hid hll
  clear hd hc hp1 hp2 hp3 hT hll
  go_enter Tryd.func3, Tryd.ntmps3
  go_wp2_with fail
  have hcon := specKw_any x0 x1 w
  rw [← HD.out, ← HC.out] at hcon
  refine hcon.mono ?_
  rintro e w1 ⟨⟨upw, rfl, hO1⟩, hb1⟩
  clear hcon
  obtain ⟨pwa, pwc, rfl⟩ := ss_slice hO1
  have SW := Lib.hid hO1
  have e1 := hb1.size
  have E1 := hb1
  clear hO1 hb1
  go_wp2_with fail
  have hcon := implKw_any x0 x1 w1 (hT.belowAll E1)
  rw [← HD.out, ← HC.out] at hcon
  refine hcon.mono ?_
  rintro e w2 ⟨⟨upg, rfl, hO2⟩, hb2⟩
  clear hcon
  obtain ⟨pga, pgc, rfl⟩ := ss_slice hO2.ss
  have OG_2 := Lib.hid hO2
  have e2 := hb2.size
  have F2 : Below w1.heap.size w1 w2 := hb2
  clear hO2 hb2
  go_wp2_with fail
  refine (eqSS_same (Value.slice pga D.length pgc) (Value.slice pwa D.length pwc) D w2 OG_2.out.ss (SW.out.below F2) hl HLL.out).mono ?_
  rintro e w3 ⟨rfl, hb3⟩
  have e3 := hb3.size
  have F3 : Below w1.heap.size w1 w3 := F2.trans (hb3.mono e2)
  have OG_3 := Lib.hid (OG_2.out.below hb3)
  clear hb3 F2 OG_2
  go_wp2_with fail
  refine (markLO_any w1.heap.size (Value.slice pga D.length pgc) D 1 w3 OG_3.out (by decide) (by decide) HT.out).mono ?_
  rintro e w4 ⟨rfl, hOm, hb4, hz4⟩
  have F4 : Below w1.heap.size w1 w4 := F3.trans hb4
  have e4 := F4.size
  have OM_4 := Lib.hid hOm
  clear hb4 F3 OG_3 hOm
  go_wp2_with fail
  refine (heldLL_any (Value.slice pga D.length pgc) D 1 _ OM_4.out (by decide) (by decide) HT.out).mono ?_
  rintro e w5 ⟨rfl, rfl⟩
  have hcon := implKw_any x0 x1 w4 (hT.belowAll (E1.trans (F4.mono E1.size)))
  go_wp2_with fail
  rw [← HD.out, ← HC.out] at hcon
  refine hcon.mono ?_
  rintro e w5 ⟨⟨uph, rfl, hO5⟩, hb5⟩
  clear hcon
  obtain ⟨pha, phc, rfl⟩ := ss_slice hO5.ss
  have OH_5 := Lib.hid hO5.ss
  have e5 := hb5.size
  have F5 : Below w1.heap.size w1 w5 := F4.trans (hb5.mono e4)
  have OM_5 := Lib.hid (OM_4.out.below hb5)
  clear hO5 hb5 F4 OM_4
  go_wp2_with fail
  refine (eqSS_same (Value.slice pha D.length phc) (Value.slice pwa D.length pwc) D w5 OH_5.out (SW.out.below F5) hl HLL.out).mono ?_
  rintro e w6 ⟨rfl, hb6⟩
  have e6 := hb6.size
  have F6 : Below w1.heap.size w1 w6 := F5.trans (hb6.mono F5.size)
  have OM_6 := Lib.hid (OM_5.out.below hb6)
  clear hb6 F5 OM_5 OH_5
  go_wp2_with fail
  refine (heldLL_any (Value.slice pga D.length pgc) D 1 _ OM_6.out (by decide) (by decide) HT.out).mono ?_
  rintro e w7 ⟨rfl, rfl⟩
  go_wp2_with fail
  go_ret
  exact ⟨rfl, E1.trans (F6.mono e1)⟩
end Go.Proofs.YtplafehkmkipmaaDoor.fnExactKautzWords
