/-
  impl.ParametersOf.
-/
import Derived.Test.YthlchifmmmnagaaDoorCn3
import Derived.Test.YthlchifmmmnagaaDoorReg
import Derived.Test.YthlchifmmmnagaaDoorCoI
import Derived.Deep.RegionHeld3
namespace Go.Proofs.YthlchifmmmnagaaDoor
set_option maxRecDepth 100000
open Go.RowKit Go.Shelf

theorem own_someP {w : World} {B : Nat} {u : Value} {L : List Int} {m : Nat} (h : Own w B u L) (hl : L.length = m) (hm : 0 < m) : ∃ g cap, u = .slice (some ⟨g, 0, none⟩) m cap ∧ B ≤ g ∧ g < w.heap.size := by
  subst hl
  rcases h.form with ⟨_, h0⟩ | ⟨g, cap, h1, h2, h3⟩
  · rw [h0] at hm; cases hm
  · exact ⟨g, cap, h1, h2, h3⟩
theorem own_cellsP {w : World} {B g cap m : Nat} {L : List Int} (h : Own w B (.slice (some ⟨g, 0, none⟩) m cap) L) (hl : L.length = m) : Cells w g 0 L := fun i hi => by
  subst hl
  rw [Nat.zero_add]
  exact (World.ownsRow.cellAt h i (by simpa using hi)).trans (map_at L i hi)

theorem own_sliceP {w : World} {B : Nat} {u : Value} {L : List Int} (h : Own w B u L) : ∃ a l c, u = .slice a l c := by
  rcases h.form with ⟨rfl, _⟩ | ⟨g, cap, rfl, _⟩
  · exact ⟨_, _, _, rfl⟩
  · exact ⟨_, _, _, rfl⟩

theorem edgesIn_new (n : Int) (v : Value) (W : World) (k : Nat) (hk : W.heap.size = k) : Calls Tryd.prog 41 #[.agg #[.int .i64 n, v]] W fun e w' => e = .returned (.func (.func 61) #[] #[.pointer (some ⟨k, 0, none⟩)]) ∧ w'.heap[k]? = some (.cells #[.int .i64 n, v] 26 (0, 0)) ∧ w'.heap.size = k + 1 ∧ Below W.heap.size W w' :=
  (edgesIn_any n v W).mono fun e w' ⟨h1, h2⟩ => by
    subst h2
    rw [hk] at h1
    exact ⟨h1, heap_new_at W _ k hk.symm, by simp [hk], (Below.refl _ _).alloc (Nat.le_refl _) _⟩

/-- What commonNumber does. -/
def CmC : Prop := ∀ (b off cap a b2 off2 cap2 : Nat) (zs zs2 : List Int) (w : World), b < w.heap.size → Cells w b off zs → isG zs.length zs = true → zs2.length = zs.length →
    b2 < w.heap.size → RdE a b2 off2 cap2 zs2 w → isG zs2.length zs2 = true → Tab w →
    CallsIn Fence.wide 6 Tryd.prog 40 #[.agg #[.int .i64 zs.length, .slice (some ⟨b, off, none⟩) zs.length cap], .func (.func 61) #[] #[.pointer (some ⟨a, 0, none⟩)]] w fun e w' =>
      e = .returned (.tuple #[.int .i64 (cmR zs (edL zs2)), .bool (cmB zs (edL zs2))]) ∧ Below w.heap.size w w'

set_option maxHeartbeats 6400000 in
theorem implPm_yes (hcm : CmC) (b off cap : Nat) (zs : List Int) (w : World) (hb : b < w.heap.size) (hc : Cells w b off zs) (hg : isG (zs.length : Int) zs = true) (hT : Tab w) :
    Calls Tryd.prog 15 #[.agg #[.int .i64 zs.length, .slice (some ⟨b, off, none⟩) zs.length cap]] w fun e w' => LRes w.heap.size (PML zs.length zs) (PMC zs.length zs) e w' ∧ Below w.heap.size w w' := by
  obtain ⟨h1, h2, -, -, -⟩ := isG_parts hg
  have hl62 : zs.length ≤ 62 := by omega
  obtain ⟨Wz, hWz⟩ : ∃ Wz, Wz = w.alloc (.cells #[.int .i64 zs.length, .slice (some ⟨b, off, none⟩) zs.length cap] 26) := ⟨_, rfl⟩
  have HG0 : Hid (Wz.heap[w.heap.size]? = some (.cells #[.int .i64 zs.length, .slice (some ⟨b, off, none⟩) zs.length cap] 26 (0, 0))) := by rw [hWz]; exact World.alloc_heap_new w _
  have HD0 : Hid (Below w.heap.size w Wz) := by show Below _ _ _; rw [hWz]; exact (Below.refl _ _).alloc (Nat.le_refl _) _
  have sz : w.heap.size + 1 ≤ Wz.heap.size := by rw [hWz]; simp
  have HCO : Hid (∀ W, Below w.heap.size w W → Calls Tryd.prog 38 #[.agg #[.int .i64 zs.length, .slice (some ⟨b, off, none⟩) zs.length cap]] W fun e w' => GRes W.heap.size zs.length (compL zs.length zs) 0 e w' ∧ Below W.heap.size W w') := fun W h => implCo_yes zs.length b off cap zs W (Nat.lt_of_lt_of_le hb h.size) (hc.below h hb) hg (by omega) (hT.belowAll h)
  have HRE : Hid (∀ W, Below w.heap.size w W → Calls Tryd.prog 39 #[.agg #[.int .i64 zs.length, .slice (some ⟨b, off, none⟩) zs.length cap]] W fun e w' => e = .returned (.tuple #[.int .i64 (regD zs.length zs), .int .i64 (regC zs.length zs)]) ∧ Below W.heap.size W w') := fun W h => implReg_yes zs.length b off cap zs W (Nat.lt_of_lt_of_le hb h.size) (hc.below h hb) hg (by omega) (hT.belowAll h)
  obtain ⟨R1, hR1⟩ : ∃ R, R = cmR zs (kdL zs true) := ⟨_, rfl⟩
  obtain ⟨R2, hR2⟩ : ∃ R, R = cmR zs (kdL zs false) := ⟨_, rfl⟩
  obtain ⟨B1, hB1⟩ : ∃ R, R = cmB zs (kdL zs true) := ⟨_, rfl⟩
  obtain ⟨B2, hB2⟩ : ∃ R, R = cmB zs (kdL zs false) := ⟨_, rfl⟩
  obtain ⟨cz, hcz⟩ : ∃ l, l = compL zs.length zs := ⟨_, rfl⟩
  have hczl : cz.length = zs.length := by rw [hcz, compL_length]
  have HC1 : Hid (∀ W k, Below w.heap.size w W → W.heap[k]? = some (.cells #[.int .i64 zs.length, .slice (some ⟨b, off, none⟩) zs.length cap] 26 (0, 0)) →
      Calls Tryd.prog 40 #[.agg #[.int .i64 zs.length, .slice (some ⟨b, off, none⟩) zs.length cap], .func (.func 61) #[] #[.pointer (some ⟨k, 0, none⟩)]] W fun e w' => e = .returned (.tuple #[.int .i64 R1, .bool B1]) ∧ Below W.heap.size W w') := fun W k h hk => by
    rw [hR1, hB1]
    exact callsIn_wide.1 (hcm b off cap k b off cap zs zs W (Nat.lt_of_lt_of_le hb h.size) (hc.below h hb) hg rfl (Nat.lt_of_lt_of_le hb h.size) ⟨hk, hc.below h hb, hT.belowAll h⟩ hg (hT.belowAll h))
  have HC2 : Hid (∀ W k b2 off2 cap2, Below w.heap.size w W → b2 < W.heap.size → Cells W b2 off2 cz → W.heap[k]? = some (.cells #[.int .i64 zs.length, .slice (some ⟨b2, off2, none⟩) zs.length cap2] 26 (0, 0)) →
      Calls Tryd.prog 40 #[.agg #[.int .i64 zs.length, .slice (some ⟨b, off, none⟩) zs.length cap], .func (.func 61) #[] #[.pointer (some ⟨k, 0, none⟩)]] W fun e w' => e = .returned (.tuple #[.int .i64 R2, .bool B2]) ∧ Below W.heap.size W w') := fun W k b2 off2 cap2 h hb2 hc2 hk => by
    rw [hR2, hB2]
    have hgz := co_isG hg
    rw [← hcz] at hgz
    have := callsIn_wide.1 (hcm b off cap k b2 off2 cap2 zs cz W (Nat.lt_of_lt_of_le hb h.size) (hc.below h hb) hg hczl hb2 ⟨by rw [hczl]; exact hk, hc2, hT.belowAll h⟩ (by rw [hczl]; exact hgz) (hT.belowAll h))
    rw [hcz] at this
    exact this
  have hpm : ∀ B : Bool, okP zs = B → PML zs.length zs = (if B then [(zs.length : Int), dg zs 0, R1, R2] else []) ∧ PMC zs.length zs = if B then 0 else 4 := fun B e => by
    unfold PML PMC
    rw [e, hg, hR1, hR2]
    cases B <;> simp
  have hall : ∃ S : Bool, S = same zs zs.length ∧ okP zs = (S && B1 && B2) := ⟨_, rfl, by rw [hB1, hB2]; rfl⟩
  obtain ⟨S, hS, hok⟩ := hall
  have hrd : S = true → regD zs.length zs = dg zs 0 ∧ regC zs.length zs = 0 := fun h => by
    unfold regD regC; rw [← hS, h, hg]; simp
  have hrc : S = false → regC zs.length zs = 5 := fun h => by
    unfold regC; rw [← hS, h, hg]; simp
  obtain ⟨RD, hRD⟩ : ∃ R, R = regD zs.length zs := ⟨_, rfl⟩
  obtain ⟨RC, hRC⟩ : ∃ R, R = regC zs.length zs := ⟨_, rfl⟩
  rw [← hRD, ← hRC] at HRE hrd
  rw [← hRC] at hrc
  rw [← hcz] at HCO
  obtain ⟨LL, hLL⟩ : ∃ L, L = PML zs.length zs := ⟨_, rfl⟩
  obtain ⟨CC, hCC⟩ : ∃ C, C = PMC zs.length zs := ⟨_, rfl⟩
  rw [← hLL, ← hCC] at hpm ⊢
  have HPM := Lib.hid hpm; have HOK := Lib.hid hok; have HRD := Lib.hid hrd; have HRC := Lib.hid hrc
  have HCL := Lib.hid hczl
  have hpos : 0 < zs.length := by omega
  clear hcm hpm hok hrd hrc hRD hRC hLL hCC hS hR1 hR2 hB1 hB2 hcz hc hg hT hczl
  obtain ⟨a0, a1, -, -⟩ := two_cells HG0.out
  go_enter Tryd.func15, Tryd.ntmps15
  go_upto_region 1 with fail
  rw [← hWz]
  clear hWz
  go_upto_region 2 with (go_at_call 38; refine (HCO.out Wz HD0.out).mono ?_; rintro e w1 ⟨⟨u, rfl, hO⟩, hb1⟩; obtain ⟨b2, cap2, rfl, hb2a, hb2b⟩ := own_someP hO HCL.out hpos; have HC3 := Lib.hid (own_cellsP hO HCL.out); have HG1 := Lib.hid ((hb1.block w.heap.size (by omega)).trans HG0.out); have E1 : Hid (Below w.heap.size w w1) := HD0.out.trans (hb1.mono HD0.out.size); have s1 := hb1.size; clear hO hb1 a0 a1)
  obtain ⟨Wd, hWd⟩ : ∃ Wd, Wd = w1.alloc (.cells #[.int .i64 zs.length, .slice (some ⟨b2, 0, none⟩) zs.length cap2] 26) := ⟨_, rfl⟩
  rw [← hWd]
  have sd : Wd.heap.size = w1.heap.size + 1 := by rw [hWd]; simp
  have HX : Hid (Wd.heap[w1.heap.size]? = some (.cells #[.int .i64 zs.length, .slice (some ⟨b2, 0, none⟩) zs.length cap2] 26 (0, 0))) := by rw [hWd]; exact World.alloc_heap_new w1 _
  have hbd : Below w1.heap.size w1 Wd := by rw [hWd]; exact (Below.refl _ _).alloc (Nat.le_refl _) _
  have HGd := Lib.hid ((hbd.block w.heap.size (by omega)).trans HG1.out)
  have Ed : Hid (Below w.heap.size w Wd) := E1.out.trans (hbd.mono E1.out.size)
  have HCd := Lib.hid (HC3.out.below hbd hb2b)
  clear hWd hbd HG0 HG1 HC3 HCO HD0 E1
  obtain ⟨a0, a1, -, -⟩ := two_cells HGd.out
  go_upto_region 5 with (go_at_call 39; refine (HRE.out Wd Ed.out).mono ?_; rintro e w2 ⟨rfl, hbr⟩; have HG2 := Lib.hid ((hbr.block w.heap.size (by omega)).trans HGd.out); have HX2 := Lib.hid ((hbr.block w1.heap.size (by omega)).trans HX.out); have E2 : Hid (Below w.heap.size w w2) := Ed.out.trans (hbr.mono Ed.out.size); have HC2c := Lib.hid (HCd.out.below hbr (by omega)); have s2 := hbr.size; clear hbr a0 a1)
  obtain ⟨b0, b1, -, -⟩ := two_cells HG2.out
  clear HGd HX Ed HCd HRE
  go_region_held3 (fun w' => w'.cell? ⟨w.heap.size, 0, none⟩ = some (.int .i64 zs.length) ∧ w'.cell? ⟨w.heap.size, 1, none⟩ = some (.slice (some ⟨b, off, none⟩) zs.length cap))
    (go_keep)
    (first
      | (go_at_call 41; refine (edgesIn_new _ _ w2.drew w2.heap.size rfl).mono ?_; rintro e w3 ⟨rfl, hk3, s3, hb3⟩; have HK3 := Lib.hid hk3; have E3 : Hid (Below w.heap.size w w3) := (E2.out.drew).trans (hb3.mono E2.out.size); have HG3 := Lib.hid ((hb3.block w.heap.size (show w.heap.size < w2.heap.size by omega)).trans HG2.out); have HX3 := Lib.hid ((hb3.block w1.heap.size (show w1.heap.size < w2.heap.size by omega)).trans HX2.out); have HC4 : Hid (Cells w3 b2 0 cz) := HC2c.out.below ((Below.refl w2.heap.size w2).drew.trans hb3) (by omega); obtain ⟨k0, k1, -, -⟩ := two_cells HG3.out; clear hk3 hb3)
      | (go_at_call 40; refine (HC1.out w3 w2.heap.size E3.out HK3.out).mono ?_; rintro e w4 ⟨rfl, hb4⟩; have E4 : Hid (Below w.heap.size w w4) := E3.out.trans (hb4.mono E3.out.size); have HG4 := Lib.hid ((hb4.block w.heap.size (by omega)).trans HG3.out); have HX4 := Lib.hid ((hb4.block w1.heap.size (by omega)).trans HX3.out); have HC5 : Hid (Cells w4 b2 0 cz) := HC4.out.below hb4 (by omega); have s4 := hb4.size; obtain ⟨j0, j1, -, -⟩ := two_cells HG4.out; clear hb4 k0 k1))
  clear HG2 HX2 E2 HC2c b0 b1
  obtain ⟨m0, m1, -, -⟩ := two_cells HX4.out
  go_wp2_with fail
  go_region_held3 (fun w' => w'.cell? ⟨w.heap.size, 0, none⟩ = some (.int .i64 zs.length) ∧ w'.cell? ⟨w.heap.size, 1, none⟩ = some (.slice (some ⟨b, off, none⟩) zs.length cap) ∧ w'.cell? ⟨w1.heap.size, 0, none⟩ = some (.int .i64 zs.length) ∧ w'.cell? ⟨w1.heap.size, 1, none⟩ = some (.slice (some ⟨b2, 0, none⟩) zs.length cap2))
    (go_keep)
    (first
      | (go_at_call 41; refine (edgesIn_new _ _ w4.drew w4.heap.size rfl).mono ?_; rintro e w5 ⟨rfl, hk5, s5, hb5⟩; have HK5 := Lib.hid hk5; have E5 : Hid (Below w.heap.size w w5) := (E4.out.drew).trans (hb5.mono E4.out.size); have HG5 := Lib.hid ((hb5.block w.heap.size (show w.heap.size < w4.heap.size by omega)).trans HG4.out); have HX5 := Lib.hid ((hb5.block w1.heap.size (show w1.heap.size < w4.heap.size by omega)).trans HX4.out); have HC6 : Hid (Cells w5 b2 0 cz) := HC5.out.below ((Below.refl w4.heap.size w4).drew.trans hb5) (by omega); obtain ⟨k0, k1, -, -⟩ := two_cells HG5.out; obtain ⟨l0, l1, -, -⟩ := two_cells HX5.out; clear hk5 hb5)
      | (go_at_call 40; refine (HC2.out w5 w4.heap.size b2 0 cap2 E5.out (by omega) HC6.out HK5.out).mono ?_; rintro e w6 ⟨rfl, hb6⟩; have E6 : Hid (Below w.heap.size w w6) := E5.out.trans (hb6.mono E5.out.size); have HG6 := Lib.hid ((hb6.block w.heap.size (by omega)).trans HG5.out); have HX6 := Lib.hid ((hb6.block w1.heap.size (by omega)).trans HX5.out); have s6 := hb6.size; obtain ⟨i0, i1, -, -⟩ := two_cells HG6.out; obtain ⟨p0, p1, -, -⟩ := two_cells HX6.out; clear hb6 k0 k1 l0 l1))
  clear HG4 HX4 HC5 HG5 HX5 HC6 HC1 HC2 E4 E5 HK5 j0 j1 m0 m1
  cases S with
  | false =>
    obtain rfl := HRC.out rfl
    have hok := HOK.out
    have HNO := Lib.hid (HPM.out false (hok.trans (by simp)))
    obtain ⟨rfl, rfl⟩ := HNO.out
    clear hok
    go_wp2_with fail
    go_ret2
    exact ⟨⟨_, rfl, Own.nil _ _⟩, E6.out⟩
  | true =>
    obtain ⟨rfl, rfl⟩ := HRD.out rfl
    have hok := HOK.out
    cases B1 with
    | false =>
      have HNO := Lib.hid (HPM.out false (hok.trans (by simp)))
      obtain ⟨rfl, rfl⟩ := HNO.out
      clear hok
      go_wp2_with fail
      go_ret2
      exact ⟨⟨_, rfl, Own.nil _ _⟩, E6.out⟩
    | true =>
      cases B2 with
      | false =>
        have HNO := Lib.hid (HPM.out false (hok.trans (by simp)))
        obtain ⟨rfl, rfl⟩ := HNO.out
        clear hok
        go_wp2_with fail
        go_ret2
        exact ⟨⟨_, rfl, Own.nil _ _⟩, E6.out⟩
      | true =>
        have HNO := Lib.hid (HPM.out true (hok.trans (by simp)))
        obtain ⟨rfl, rfl⟩ := HNO.out
        clear hok
        go_wp2_with fail
        go_ret2
        exact ⟨⟨_, rfl, own4 w6 _ _ _ _ E6.out.size⟩, E6.out.alloc E6.out.size _⟩

set_option maxHeartbeats 400000 in
theorem implPm_no (n : Int) (v : Value) (zs : List Int) (w : World) (h : Sl w v zs) (hg : isG n zs = false) (hl : zs.length ≤ 9223372036854775807) (hT : Tab w) :
    Calls Tryd.prog 15 #[.agg #[.int .i64 n, v]] w fun e w' => LRes w.heap.size [] 1 e w' ∧ Below w.heap.size w w' := by
  have D0 : Below w.heap.size w (w.alloc (.cells #[.int .i64 n, v] 26)) := (Below.refl _ _).alloc (Nat.le_refl _) _
  have his := implCo_no n v zs _ (h.below D0) hg hl (hT.belowAll D0)
  clear hg h hT
  go_enter Tryd.func15, Tryd.ntmps15
  go_wp2_with (go_at_call 38; refine his.mono ?_; rintro e w1 ⟨⟨u, rfl, hO⟩, hb1⟩; obtain ⟨pa, pl, pc, rfl⟩ := own_sliceP hO)
  go_ret2
  exact ⟨⟨_, rfl, Own.nil _ _⟩, (D0.trans (hb1.mono (by simp))).alloc (by have := hb1.size; simp at this; omega) _⟩

theorem implPm_any (hcm : CmC) (n : Int) (v : Value) (zs : List Int) (w : World) (h : Sl w v zs) (hl : zs.length ≤ 9223372036854775807) (hT : Tab w) :
    Calls Tryd.prog 15 #[.agg #[.int .i64 n, v]] w fun e w' => LRes w.heap.size (PML n zs) (PMC n zs) e w' ∧ Below w.heap.size w w' := by
  cases hg : isG n zs
  · rw [show PML n zs = [] by simp [PML, hg], show PMC n zs = 1 by simp [PMC, hg]]
    exact implPm_no n v zs w h hg hl hT
  · obtain ⟨b, off, cap, rfl, hb, hc⟩ := sl_some h (by have := (isG_parts hg).2.2.1; have := (isG_parts hg).1; omega)
    obtain rfl := (isG_parts hg).2.2.1
    exact implPm_yes hcm b off cap zs w hb hc hg hT
end Go.Proofs.YthlchifmmmnagaaDoor
