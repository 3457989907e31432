/-
  impl.GeneratedBy. (A tied seat of groups.)
-/
import Derived.Test.YtklgimikdnokcaaDoorKc
import Derived.Test.YtklgimikdnokcaaDoorCe
import Derived.Test.YtklgimikdnokcaaDoorNi
namespace Go.Proofs.YtklgimikdnokcaaDoor
set_option maxRecDepth 100000
open Go.RowKit

/-- All that is generated, or nothing. -/
noncomputable def gnL (a b : Int) (zs : List Int) : List Int := if elC a b zs = 0 ∧ zs.length ≤ 62 then genL a.toNat b.toNat zs else []
theorem gnL_no {a b : Int} {zs : List Int} (h : clC a b zs ≠ 0) : gnL a b zs = [] := by
  unfold gnL
  refine if_neg fun e => h ?_
  obtain ⟨k, p, rfl, rfl, _, _⟩ := elC_zero e.1
  exact (clC_yes e.1 e.2).1
theorem gnL_yes {k p : Nat} {zs : List Int} (h : elC k p zs = 0) (hl : zs.length ≤ 62) : gnL k p zs = genL k p zs := by
  unfold gnL; rw [if_pos ⟨h, hl⟩, Int.toNat_natCast, Int.toNat_natCast]
theorem clC_zero {a b : Int} {zs : List Int} (h : clC a b zs = 0) : ∃ k p : Nat, a = k ∧ b = p ∧ gOk k p = true ∧ elOk (gOrd k p) zs zs.length = true ∧ zs.length ≤ 62 := by
  unfold clC at h
  by_cases he : elC a b zs = 0
  · rw [if_pos he] at h
    by_cases hl : 62 < zs.length
    · rw [if_pos hl] at h; cases h
    · obtain ⟨k, p, e1, e2, h1, h2⟩ := elC_zero he
      exact ⟨k, p, e1, e2, h1, h2, by omega⟩
  · rw [if_neg he] at h; exact absurd h he
theorem genL_length {k p : Nat} {zs : List Int} (h : gOk k p = true) : (genL k p zs).length ≤ 62 := by
  unfold genL
  rw [List.length_map]
  have := List.length_filter_le (genB k p zs) (List.range (gOrd k p))
  rw [List.length_range] at this
  exact Nat.le_trans this (gOrd_le h)
theorem gnL_length (a b : Int) (zs : List Int) : (gnL a b zs).length ≤ 62 := by
  unfold gnL
  split
  · rename_i h
    obtain ⟨k, p, rfl, rfl, hg, _⟩ := elC_zero h.1
    exact genL_length hg
  · simp
/-- The digits of a row are the list. -/
theorem mem_gen {k p x : Nat} {zs : List Int} (h : gOk k p = true) (hx : x < 2 ^ gOrd k p) (hb : ∀ w, x.testBit w = true ↔ Reach k p zs w) : (mem x).map (fun y : Nat => (y : Int)) = genL k p zs := by
  unfold genL
  rw [mem_to x (gOrd k p) hx (by have := gOrd_le h; omega)]
  congr 1
  apply List.filter_congr
  intro w _
  rw [Bool.eq_iff_iff, hb, genB_iff]
theorem own_mem {w : World} {B : Nat} {u : Value} {x : Nat} (h : w.ownsRow B 2 1 u (mem x).length (natsV (mem x))) : Own w B u ((mem x).map fun y : Nat => (y : Int)) := by
  show World.ownsRow _ _ _ _ _ _ _
  rw [List.length_map, List.map_map]
  exact h
theorem proR_bd {k p : Nat} {js : List Int} : ∀ i, i < (proR k p js).length → 0 ≤ el (proR k p js) i ∧ (el (proR k p js) i).toNat < 2 ^ (proR k p js).length := by
  intro i hi
  rw [proR_length] at *
  rw [proR_el k p js i hi, Int.toNat_natCast]
  exact ⟨by omega, bitsN_lt _ _⟩

set_option maxHeartbeats 800000 in
theorem implGen_no (a b : Int) (v : Value) (zs : List Int) (w : World) (hs : Sl w v zs) (hl : zs.length ≤ 9223372036854775807) (hT : Tab w) (h : clC a b zs ≠ 0) :
    Calls Tryd.prog 26 #[gv a b, v] w fun e w' => LRes w.heap.size [] (clC a b zs) e w' ∧ Below w.heap.size w w' := by
  have D0 : Below w.heap.size w (w.alloc (.cells #[.int .i64 a, .int .i64 b] 27)) := (Below.refl _ _).alloc (Nat.le_refl _) _
  have hc := implClosed_any a b v zs (w.alloc (.cells #[.int .i64 a, .int .i64 b] 27)) (hs.below D0) hl (hT.belowAll D0)
  obtain ⟨c, hcc⟩ : ∃ c, c = clC a b zs := ⟨_, rfl⟩
  rw [← hcc] at hc h ⊢
  have e0 : (c == 0) = false := by simpa using h
  clear hcc h hs hT
  unfold gv at *
  go_enter Tryd.func26, Tryd.ntmps26
  go_wp2_with fail
  refine hc.mono ?_
  rintro e w1 ⟨⟨u, rfl, hO⟩, hb⟩
  clear hO
  go_wp2_with fail
  go_ret2
  exact ⟨⟨_, rfl, Own.nil _ _⟩, D0.trans (hb.mono D0.size)⟩

set_option maxHeartbeats 1600000 in
theorem implGen_yes (k p : Nat) (v : Value) (zs : List Int) (w : World) (hs : Sl w v zs) (hl : zs.length ≤ 62) (h : gOk k p = true) (hj : elOk (gOrd k p) zs zs.length = true) (hT : Tab w) :
    Calls Tryd.prog 26 #[gv k p, v] w fun e w' => LRes w.heap.size (genL k p zs) 0 e w' ∧ Below w.heap.size w w' := by
  have D0 : Below w.heap.size w (w.alloc (.cells #[.int .i64 k, .int .i64 p] 27)) := (Below.refl _ _).alloc (Nat.le_refl _) _
  have HB0 := Lib.hid (World.alloc_heap_new w (.cells #[.int .i64 k, .int .i64 p] 27))
  have he := elC_yes h hj
  have hc := implClosed_any k p v zs (w.alloc (.cells #[.int .i64 k, .int .i64 p] 27)) (hs.below D0) (by omega) (hT.belowAll D0)
  rw [(clC_yes he hl).1, (clC_yes he hl).2] at hc
  have hgi : giC k p (clE k p zs) = 0 := giC_yes (elC_yes h clE_ok) (clE_twice h hj)
  have HCA := Lib.hid (fun W u (hsw : Sl W u (clE k p zs)) hTW => implCa_any k p u (clE k p zs) W hsw (by have := clE_length (js := zs) h; omega) hTW)
  rw [hgi] at HCA
  have en : caN k p (clE k p zs) = (gOrd k p : Nat) := by unfold caN; rw [if_pos hgi, Int.toNat_natCast, Int.toNat_natCast]
  have eL : caL k p (clE k p zs) = proR k p (clE k p zs) := by unfold caL; rw [if_pos hgi, Int.toNat_natCast, Int.toNat_natCast]
  rw [en, eL] at HCA
  have hn := gOrd_le h
  have hn1 := gOrd_pos h
  have HLN := Lib.hid (proR_length k p (clE k p zs))
  have HBD := Lib.hid (proR_bd (k := k) (p := p) (js := clE k p zs))
  have HCR := Lib.hid (fun w => cay_reach (w := w) h hj)
  have HMG := Lib.hid (fun x => mem_gen (x := x) (zs := zs) h)
  obtain ⟨n, hnn⟩ : ∃ n, n = gOrd k p := ⟨_, rfl⟩
  obtain ⟨R, hR⟩ : ∃ R, R = proR k p (clE k p zs) := ⟨_, rfl⟩
  rw [← hR] at HCA HLN HBD HCR
  rw [← hnn] at HCA HLN hn hn1 HMG
  have HT := Lib.hid (hT.belowAll D0)
  clear hs h hj hT he hgi en eL hnn hR
  simp only [gv] at *
  go_enter Tryd.func26, Tryd.ntmps26
  go_wp2_with fail
  refine hc.mono ?_
  rintro e w1 ⟨⟨u, rfl, hO⟩, hb1⟩
  have s1 := hb1.size
  have hT1 := HT.out.belowAll hb1
  have hca := HCA.out w1 u hO.sl hT1
  rw [World.size_alloc] at hb1 s1
  obtain ⟨r0, r1, -, -⟩ := two_cells ((hb1.block w.heap.size (by omega)).trans HB0.out)
  clear hO hc
  go_wp2_with fail
  refine hca.mono ?_
  rintro e w2 ⟨⟨u2, rfl, hO2⟩, hb2⟩
  have hT2 := hT1.belowAll hb2
  obtain ⟨g, cap, rfl, hg1, hg2⟩ : ∃ g cap, u2 = .slice (some ⟨g, 0, none⟩) R.length cap ∧ w1.heap.size ≤ g ∧ g < w2.heap.size := by
    rcases hO2.form with ⟨_, e⟩ | h
    · rw [e] at HLN; have := HLN.out; simp at this; omega
    · exact h
  have s2 := hb2.size
  have hcc : Cells w2 g 0 R := by
    rcases hO2.sl with ⟨a, c, _, e⟩ | ⟨b, off, cap', e1, _, hc⟩
    · rw [e] at HLN; have := HLN.out; simp at this; omega
    · cases e1; exact hc
  have hRl : R.length ≤ 62 := by rw [HLN.out]; exact hn
  have hR0 : 0 < R.length := by rw [HLN.out]; exact hn1
  obtain ⟨W3, hW3⟩ : ∃ W3, W3 = w2.alloc (.cells #[.int .i64 n, .slice (some ⟨g, 0, none⟩) R.length cap] 36) := ⟨_, rfl⟩
  have D3 : Below w2.heap.size w2 W3 := by rw [hW3]; exact (Below.refl _ _).alloc (Nat.le_refl _) _
  have s3 := D3.size
  have hT3 := hT2.belowAll D3
  have hre := reached_any n g 0 cap R 0 W3 (by omega) (hcc.below D3 hg2) hT3 hRl HBD.out hR0
  rw [show ((0 : Nat) : Int) = 0 from rfl] at hre
  have E3 := Lib.hid (D0.trans ((hb1.trans ((hb2.trans (D3.mono s2)).mono s1)).mono (by omega)))
  have E3s : w.heap.size ≤ W3.heap.size := by omega
  clear hca r0 r1 hcc hO2 hb1 hb2 hT1 hT2
  go_wp2_with fail
  rw [← hW3]
  clear hW3 D3
  refine hre.mono ?_
  rintro e w3 ⟨⟨ev, od, rfl, elt, olt, hbits⟩, hb3⟩
  have hT4 := hT3.belowAll hb3
  have hp62 : 2 ^ R.length ≤ 2 ^ 62 := Nat.pow_le_pow_right (by decide) hRl
  have hor : bits .or .i64 (ev : Int) (od : Int) = ((ev ||| od : Nat) : Int) := or_i64 _ _ (by omega) (by omega)
  have hlt := Nat.or_lt_two_pow elt olt
  have HM := Lib.hid (HMG.out (ev ||| od) (by rw [← HLN.out]; exact hlt) fun w => (hbits w).trans (HCR.out w))
  have hlo := listOf_any (ev ||| od) (by omega) w3 hT4
  have E4 := E3.out.trans (hb3.mono E3s)
  have s4 := E4.size
  clear hre hbits hb3 hT3
  go_wp2_with fail
  refine hlo.mono ?_
  rintro e w4 ⟨u4, rfl, hown, hb4⟩
  have HO := Lib.hid (own_mem hown)
  rw [HM.out] at HO
  clear hlo hown
  go_wp2_with fail
  go_ret2
  exact ⟨⟨_, rfl, HO.out.base s4⟩, E4.trans (hb4.mono s4)⟩

theorem implGen_any (a b : Int) (v : Value) (zs : List Int) (w : World) (hs : Sl w v zs) (hl : zs.length ≤ 9223372036854775807) (hT : Tab w) :
    Calls Tryd.prog 26 #[gv a b, v] w fun e w' => LRes w.heap.size (gnL a b zs) (clC a b zs) e w' ∧ Below w.heap.size w w' := by
  by_cases h : clC a b zs = 0
  · obtain ⟨k, p, rfl, rfl, hg, hj, h62⟩ := clC_zero h
    rw [h, gnL_yes (elC_yes hg hj) h62]
    exact implGen_yes k p v zs w hs h62 hg hj hT
  · rw [gnL_no h]
    exact implGen_no a b v zs w hs hl hT h
end Go.Proofs.YtklgimikdnokcaaDoor
