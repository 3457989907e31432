/-
  spec.l07Fits, spec.FitsBoth, spec.l07Given, impl.checkFitting.
-/
import Derived.Test.YtehpafbhejcbmaaDoorFb7
import Derived.Test.YtehpafbhejcbmaaDoorEs7
import Derived.Test.YtehpafbhejcbmaaDoorPe7
import Derived.Deep.RegionHeld3
namespace Go.Proofs.YtehpafbhejcbmaaDoor
set_option maxRecDepth 100000
set_option maxRecDepth 100000
open Go.RowKit

set_option maxHeartbeats 3200000 in
theorem fitsS_some (b off cap : Nat) (zs : List Int) (k c : Int) (w : World) (hb : b < w.heap.size) (hc : Cells w b off zs) (hg : isG zs.length zs = true) (hc63 : c ≤ 63) (hc0 : 0 ≤ c) :
    Calls Tryd.prog 41 #[.agg #[.int .i64 zs.length, .slice (some ⟨b, off, none⟩) zs.length cap], .int .i64 k, .int .i64 c] w fun e w' => e = .returned (.bool (FbB zs k c)) ∧ Below w.heap.size w w' := by
  obtain ⟨g1, g2, -, -, -⟩ := isG_iff.1 hg
  have h62 : zs.length ≤ 62 := by omega
  have HZR := isG_row_ok hg
  have HDG : Hid (∀ (W : World) (a : Nat), Below w.heap.size w W → a < zs.length → Calls Tryd.prog 52 #[.agg #[.int .i64 zs.length, .slice (some ⟨b, off, none⟩) zs.length cap], .int .i64 a] W fun e w' => e = .returned (.int .i64 (dg zs a)) ∧ Below W.heap.size W w') := fun W a h ha => by
    have := degree_rows zs.length b off cap zs a W (Nat.lt_of_lt_of_le hb h.size) (hc.below h hb) (by omega) (by omega) HZR
    rw [Int.toNat_natCast] at this; exact this
  have HED : Hid (∀ W : World, Below w.heap.size w W → Calls Tryd.prog 66 #[.agg #[.int .i64 zs.length, .slice (some ⟨b, off, none⟩) zs.length cap]] W fun e w' => (∃ u, e = .returned u ∧ TS w' W.heap.size u (EdLL zs)) ∧ Below W.heap.size W w') := fun W h => specEdges_some b off cap zs W (Nat.lt_of_lt_of_le hb h.size) (hc.below h hb) hg
  have HCT : Hid (∀ (W : World) (x y : Nat), Below w.heap.size w W → x < zs.length → y < zs.length → x ≠ y → bt (el zs x) y = true → Calls Tryd.prog 68 #[.agg #[.int .i64 zs.length, .slice (some ⟨b, off, none⟩) zs.length cap], .int .i64 x, .int .i64 y] W fun e w' => (∃ g cu, e = .returned (.agg #[.int .i64 zs.length, .slice (some ⟨g, 0, none⟩) zs.length cu]) ∧ Own w' W.heap.size (.slice (some ⟨g, 0, none⟩) zs.length cu) (flipL zs x y)) ∧ Below W.heap.size W w') := fun W x y h hx hy hne hbt => by
    refine (l01Cut_some zs.length b off cap zs.length zs x y W rfl (Nat.lt_of_lt_of_le hb h.size) (hc.below h hb) hx hy hne h62 (fun i hi => ?_)).mono ?_
    · obtain ⟨-, -, -, h4, -⟩ := isG_iff.1 hg
      have q0 := (h4 i hi).1
      have q1 := (h4 i hi).2.1
      have e : ((2 : Int) ^ zs.length) = ((2 ^ zs.length : Nat) : Int) := by simp
      refine ⟨q0, ?_⟩
      rw [e]; omega
    · rintro e w' ⟨u, rfl, hO, hb'⟩
      rw [cutL_flip hne (HZR x hx) (HZR y hy) (by omega) (by omega) hbt (by rw [isG_symm hg hx hy]; exact hbt)] at hO
      obtain ⟨g, cu, rfl, -, -⟩ := own_some8 hO (flipL_length _ _ _) (by omega)
      exact ⟨⟨g, cu, rfl, hO⟩, hb'⟩
  have HFA : Hid (∀ (W : World) (B g cu x y : Nat), Own W B (.slice (some ⟨g, 0, none⟩) zs.length cu) (flipL zs x y) → x < zs.length → y < zs.length → x ≠ y → bt (el zs x) y = true → Calls Tryd.prog 67 #[.agg #[.int .i64 zs.length, .slice (some ⟨g, 0, none⟩) zs.length cu], .int .i64 x, .int .i64 y] W fun e w' => e = .returned (.int .i64 (cyD zs x (2 ^ y) y)) ∧ Below W.heap.size W w') := fun W B g cu x y hO hx hy hne hbt => by
    have hgl := own_some8 hO (flipL_length _ _ _) (by omega)
    obtain ⟨g', cu', he, -, hlt⟩ := hgl
    cases he
    have hfl := far_some g 0 cu (flipL zs x y) x y W hlt (own_cells8 hO (flipL_length _ _ _)) (by rw [flipL_length]; exact isG_flip hg hx hy hne) (by rw [flipL_length]; exact hx) (by rw [flipL_length]; exact hy)
    rw [flipL_length, cyD_cut hx hy hbt] at hfl
    exact hfl
  have HEL : Hid (∀ i, i < (edL zs).length → ∃ x y : Nat, elS (EdLL zs) i = [(x : Int), (y : Int)] ∧ (edL zs)[i]? = some (x, y) ∧ x < zs.length ∧ y < zs.length ∧ x ≠ y ∧ bt (el zs x) y = true) := fun i hi => by
    obtain ⟨p, hp⟩ : ∃ p, (edL zs)[i]? = some p := ⟨_, List.getElem?_eq_getElem hi⟩
    have hm : p ∈ edL zs := List.mem_of_getElem? hp
    have hlt := edL_lt hm (fun j hj => ((isG_iff.1 hg).2.2.2.1 j hj).2.1)
    obtain ⟨x, y⟩ := p
    refine ⟨x, y, ?_, hp, by omega, hlt.2, by omega, (edL_mem.1 hm).2.2.2⟩
    unfold elS EdLL
    rw [List.getD_eq_getElem?_getD, List.getElem?_map, hp]; rfl
  have HCY : Hid (∀ x y : Nat, x < zs.length → x ≠ y → (c ≤ cyc zs x y ↔ ¬ (0 < cyD zs x (2 ^ y) y ∧ cyD zs x (2 ^ y) y + 1 < c))) := fun x y hx hne => by
    have := cyc_ge hx hne
    unfold cyc at *
    split at this <;> rename_i h0
    · rw [if_pos h0]; omega
    · rw [if_neg h0]; omega
  have hel : (EdLL zs).length = (edL zs).length := by unfold EdLL; simp
  have hle := (eo_sizes zs.length zs).1
  unfold EoL at hle
  rw [hg, if_pos rfl, hel] at hle
  have HL := Lib.hid hle
  have HELN := Lib.hid hel
  have HNO : Hid (∀ v, v < zs.length → k < (dg zs v : Int) → FbB zs k c = false) := fun v hv h => by
    unfold FbB
    rw [Bool.and_eq_false_iff]
    refine .inl ?_
    cases hf : fbD zs k zs.length with
    | false => rfl
    | true => have := fbD_iff.1 hf v hv; omega
  have HN2 : Hid (∀ p, p ∈ edL zs → cyc zs p.1 p.2 < c → FbB zs k c = false) := fun p hp h => by
    unfold FbB
    rw [Bool.and_eq_false_iff]
    refine .inr (decide_eq_false fun h2 => ?_)
    have := (gF_le.1 h2).2 p hp
    omega
  have HYE : Hid (fbD zs k zs.length = true → (∀ p, p ∈ edL zs → c ≤ cyc zs p.1 p.2) → FbB zs k c = true) := fun h1 h2 => by
    unfold FbB
    rw [h1, Bool.true_and]
    exact decide_eq_true (gF_le.2 ⟨hc63, h2⟩)
  have D0 : Below w.heap.size w (w.alloc (.cells #[.int .i64 zs.length, .slice (some ⟨b, off, none⟩) zs.length cap] 28)) := (Below.refl _ _).alloc (Nat.le_refl _) _
  have HR0 := Lib.hid (World.alloc_heap_new w (.cells #[.int .i64 zs.length, .slice (some ⟨b, off, none⟩) zs.length cap] 28))
  have HBX : Hid (∀ W, Below (w.heap.size + 1) (w.alloc (.cells #[.int .i64 zs.length, .slice (some ⟨b, off, none⟩) zs.length cap] 28)) W → W.heap[w.heap.size]? = some (.cells #[.int .i64 zs.length, .slice (some ⟨b, off, none⟩) zs.length cap] 28 (0, 0)) ∧ Below w.heap.size w W) := fun W h2 => ⟨(h2.block _ (by omega)).trans HR0.out, D0.trans (h2.mono (by omega))⟩
  obtain ⟨Wb, hWb⟩ : ∃ Wb, Wb = w.alloc (.cells #[.int .i64 zs.length, .slice (some ⟨b, off, none⟩) zs.length cap] 28) := ⟨_, rfl⟩
  have sb : Wb.heap.size = w.heap.size + 1 := by rw [hWb]; simp
  rw [← hWb] at HBX D0
  clear hc hg hc63 hle hel HZR HR0 D0
  go_enter Tryd.func41, Tryd.ntmps41
  go_wp2_with fail
  rw [← hWb]
  clear hWb
  go_loopw [7] (fun i wr => ∃ v : Nat, v ≤ zs.length ∧ i = .int .i64 v ∧ Hid (fbD zs k v = true) ∧ Below (w.heap.size + 1) Wb wr) (fun i _ => zs.length - (intOf i).toNat)
  case atStart => exact ⟨0, Nat.zero_le _, rfl, fbD_iff.2 (fun i hi => absurd hi (Nat.not_lt_zero _)), Below.refl _ _⟩
  case round =>
    obtain ⟨v, hv, rfl, HF, hE⟩ := hrel
    obtain ⟨hbx, hEw⟩ := HBX.out _ hE
    obtain ⟨b0, b1, -, -⟩ := two_cells hbx
    have sE := hE.size
    by_cases hlt : (v : Int) < zs.length
    · have hvl : v < zs.length := by omega
      have hv0 : (0 : Int) ≤ v := by omega
      have hdg := HDG.out _ v hEw hvl
      have HW := Lib.hid hEw
      clear hEw hbx
      by_cases hgt : k < (dg zs v : Int)
      · have HR := Lib.hid (HNO.out v hvl hgt)
        have hgt' : decide ((dg zs v : Int) > k) = true := by simpa using hgt
        go_wp2_with (go_at_call 52; refine hdg.mono ?_; rintro e w1 ⟨rfl, hb1⟩)
        go_ret
        exact ⟨ret_bool HR.out.symm, HW.out.trans (hb1.mono HW.out.size)⟩
      · have HF2 : Hid (fbD zs k (v + 1) = true) := fbD_iff.2 fun i hi => by
          by_cases e : i = v
          · rw [e]; omega
          · exact fbD_iff.1 HF.out i (by omega)
        have hgt' : decide ((dg zs v : Int) > k) = false := by simpa using hgt
        clear HF
        go_wp2_with (go_at_call 52; refine hdg.mono ?_; rintro e w1 ⟨rfl, hb1⟩)
        go_roundw
        case rel => exact ⟨v + 1, by omega, by go_num, HF2, hE.trans (hb1.mono (by omega))⟩
        case measure => simp [intOf]; omega
    · have hvl : v = zs.length := by omega
      subst hvl
      clear hlt
      have hed := HED.out _ hEw
      have HW := Lib.hid hEw
      clear hEw hbx
      go_wp2_with (go_at_call 66; refine hed.mono ?_; rintro e w1 ⟨⟨u, rfl, hTS⟩, hb1⟩)
      have hHW1 := HW.out.trans (hb1.mono HW.out.size)
      have hsz1 := hHW1.size
      have hHB1 : Below (w.heap.size + 1) Wb w1 := hE.trans (hb1.mono (by omega))
      have HTS := Lib.hid (hTS.base (show w.heap.size + 1 ≤ wr.heap.size by omega))
      obtain ⟨qp, uc, rfl, HQ⟩ : ∃ qp uc, u = .slice qp (edL zs).length uc ∧ Hid (0 < (edL zs).length → ∃ g, qp = some ⟨g, 0, none⟩ ∧ g < w1.heap.size) := by
        rcases HTS.out.form with ⟨h1, h2⟩ | ⟨g, cp, h1, h2, h3⟩
        · have hz : (edL zs).length = 0 := by rw [← HELN.out, h2]; rfl
          exact ⟨none, 0, by rw [h1, hz], fun h => by omega⟩
        · rw [HELN.out] at h1
          exact ⟨_, cp, h1, fun _ => ⟨g, rfl, h3⟩⟩
      have HRW : Hid (∀ i, i < (edL zs).length → ∃ g ge ce, ∃ x y : Nat, qp = some ⟨g, 0, none⟩ ∧ ((edL zs)[i]? = some (x, y) ∧ x < zs.length ∧ y < zs.length ∧ x ≠ y ∧ bt (el zs x) y = true) ∧ ∀ W, Below w1.heap.size w1 W → W.cell? ⟨g, i, none⟩ = some (.slice (some ⟨ge, 0, none⟩) 2 ce) ∧ W.cell? ⟨ge, 0, none⟩ = some (.int .i64 x) ∧ W.cell? ⟨ge, 1, none⟩ = some (.int .i64 y)) := fun i hi => by
        obtain ⟨g, rfl, hgl⟩ := HQ.out (by omega)
        have hT := HTS.out
        rw [← HELN.out] at hT
        obtain ⟨uu, h1, h2, -⟩ := hT.at (by rw [HELN.out]; exact hi)
        obtain ⟨x, y, e1, e2, e3, e4, e5, e6⟩ := HEL.out i hi
        rw [e1] at h2
        obtain ⟨ge, ce, rfl, -, -⟩ := own_some8 h2 (m := 2) rfl (by decide)
        refine ⟨g, ge, ce, x, y, rfl, ⟨e2, e3, e4, e5, e6⟩, fun W hW => ⟨(hW.cell (p := ⟨g, i, none⟩) hgl).trans h1, ?_⟩⟩
        have hc2 := own_cells8 (h2.below hW) rfl
        exact ⟨hc2 0 (by simp), hc2 1 (by simp)⟩
      clear hTS hb1 hed hE HTS HQ HEL
      go_loopw [9, 10] (fun i _ wr => ∃ j : Nat, j ≤ (edL zs).length ∧ i = .int .i64 j ∧ Hid (∀ a, a < j → ∀ p, (edL zs)[a]? = some p → c ≤ cyc zs p.1 p.2) ∧ Below w1.heap.size w1 wr) (fun i _ _ => (edL zs).length - (intOf i).toNat)
      case atStart => exact ⟨0, Nat.zero_le _, rfl, fun a h => absurd h (Nat.not_lt_zero _), Below.refl _ _⟩
      case round =>
        obtain ⟨j, hj, rfl, HA, hE⟩ := hrel
        have hLl := HL.out
        by_cases hlt : (j : Int) < (edL zs).length
        · have hjl : j < (edL zs).length := by omega
          have hj0 : (0 : Int) ≤ j := by omega
          obtain ⟨g, ge, ce, x, y, rfl, ⟨hp, hx, hy, hne, hbt⟩, HRD⟩ := HRW.out j hjl
          have sE := hE.size
          have HW : Hid (∀ W', Below wr.heap.size wr W' → W'.heap[w.heap.size]? = some (.cells #[.int .i64 zs.length, .slice (some ⟨b, off, none⟩) zs.length cap] 28 (0, 0)) ∧ W'.cell? ⟨g, j, none⟩ = some (.slice (some ⟨ge, 0, none⟩) 2 ce) ∧ W'.cell? ⟨ge, 0, none⟩ = some (.int .i64 x) ∧ W'.cell? ⟨ge, 1, none⟩ = some (.int .i64 y) ∧ Below w1.heap.size w1 W') := fun W' h => by
            have hE' := hE.trans (h.mono sE)
            obtain ⟨r0, r1, r2⟩ := HRD W' hE'
            exact ⟨(HBX.out _ (hHB1.trans (hE'.mono (by have := hHB1.size; omega)))).1, r0, r1, r2, hE'⟩
          obtain ⟨hbx, q0, q1, q2, -⟩ := HW.out wr (Below.refl _ _)
          obtain ⟨b0, b1, -, -⟩ := two_cells hbx
          have hct := HCT.out wr.drew x y (hHW1.trans (hE.drew.mono hHW1.size)) hx hy hne hbt
          have HFR := Lib.hid (fun W B g cu h => HFA.out W B g cu x y h hx hy hne hbt)
          have HIF := Lib.hid (HCY.out x y hx hne)
          have HN3 := Lib.hid (HN2.out (x, y) (List.mem_of_getElem? hp))
          have HA2 : Hid (c ≤ cyc zs x y → ∀ a, a < j + 1 → ∀ p, (edL zs)[a]? = some p → c ≤ cyc zs p.1 p.2) := fun h a ha p hp2 => by
            by_cases e : a = j
            · subst e; rw [hp] at hp2; cases hp2; exact h
            · exact HA.out a (by omega) p hp2
          have hDb := dOf_bd (R := Rw zs x (2 ^ y)) (w := y) hx
          rw [show dOf (Rw zs x (2 ^ y)) zs.length x y = cyD zs x (2 ^ y) y from rfl] at hDb
          generalize cyD zs x (2 ^ y) y = D at *
          have W1 : IntKind.i64.wrap (D + 1) = D + 1 := IntWalk.i64_in _ (by omega)
          have hsd : wr.drew.heap.size = wr.heap.size := rfl
          clear hE HA hbx hp HCT HFA HCY HN2 HDG HED HRW HRD
          go_wp2_with fail
          go_region_held3 (fun w' => w'.cell? ⟨w.heap.size, 0, none⟩ = some (.int .i64 zs.length) ∧ w'.cell? ⟨w.heap.size, 1, none⟩ = some (.slice (some ⟨b, off, none⟩) zs.length cap) ∧ w'.cell? ⟨g, j, none⟩ = some (.slice (some ⟨ge, 0, none⟩) 2 ce) ∧ w'.cell? ⟨ge, 0, none⟩ = some (.int .i64 x) ∧ w'.cell? ⟨ge, 1, none⟩ = some (.int .i64 y))
            (go_keep)
            (first
            | (go_at_call 68; refine hct.mono ?_; rintro e w4 ⟨⟨gc, cc, rfl, hO4⟩, hb4⟩; obtain ⟨hbx4, q0, q1, q2, hE4⟩ := HW.out w4 ((Below.refl _ _).drew.trans (hb4.mono (by simp))); obtain ⟨b0, b1, -, -⟩ := two_cells hbx4; have HB4 : Hid (Below wr.heap.size wr.drew w4) := hb4.mono (by simp); have HO4 := Lib.hid hO4; have HE4 := Lib.hid hE4; clear hb4 hO4 hbx4 hE4)
            | (go_at_call 67; refine (HFR.out _ _ _ _ HO4.out).mono ?_; rintro e w5 ⟨rfl, hb5⟩; obtain ⟨hbx5, q0, q1, q2, hE5⟩ := HW.out w5 ((Below.refl _ _).drew.trans (HB4.out.trans (hb5.mono HB4.out.size))); obtain ⟨b0, b1, -, -⟩ := two_cells hbx5; have HE5 := Lib.hid hE5; clear hb5 hbx5 hE5))
          by_cases hD : 0 < D
          · have hD1 : decide (D > 0) = true := by simpa using hD
            by_cases hD2 : D + 1 < c
            · have hD3 : decide (D + 1 < c) = true := by simpa using hD2
              have HR := Lib.hid (HN3.out (Int.not_le.1 fun h => HIF.out.1 h ⟨hD, hD2⟩))
              go_wp2
              go_ret
              exact ⟨ret_bool HR.out.symm, hHW1.trans (HE5.out.mono hHW1.size)⟩
            · have hD3 : decide (D + 1 < c) = false := by simpa using hD2
              have HA3 := Lib.hid (HA2.out (HIF.out.2 (fun h => hD2 h.2)))
              clear HA2 HIF HN3
              go_wp2
              go_roundw
              case rel => exact ⟨j + 1, by omega, by go_num, HA3, HE5.out⟩
              case measure => simp [intOf]; omega
          · have hD1 : decide (D > 0) = false := by simpa using hD
            have HA3 := Lib.hid (HA2.out (HIF.out.2 (fun h => hD h.1)))
            clear HA2 HIF HN3
            go_wp2
            go_roundw
            case rel => exact ⟨j + 1, by omega, by go_num, HA3, HE5.out⟩
            case measure => simp [intOf]; omega
        · have hjl : j = (edL zs).length := by omega
          subst hjl
          have HR := Lib.hid (HYE.out HF.out fun p hp => by
            obtain ⟨a, ha, he⟩ := List.mem_iff_getElem.1 hp
            exact HA.out a ha p (by rw [List.getElem?_eq_getElem ha, he]))
          go_wp2
          go_ret
          exact ⟨ret_bool HR.out.symm, hHW1.trans (hE.mono (by omega))⟩

set_option maxHeartbeats 800000 in
theorem specFb_any (n : Int) (v : Value) (zs : List Int) (k c : Int) (w : World) (h : Sl w v zs) (hl : zs.length ≤ 9223372036854775807) :
    Calls Tryd.prog 16 #[.agg #[.int .i64 n, v], .int .i64 k, .int .i64 c] w fun e w' => e = .returned (.tuple #[.bool (FbG n zs k c), .int .i64 (FbC n zs k c)]) ∧ Below w.heap.size w w' := by
  have D0 : Below w.heap.size w (w.alloc (.cells #[.int .i64 n, v] 28)) := (Below.refl _ _).alloc (Nat.le_refl _) _
  have his := l01Is_any n v zs _ (h.below D0) hl
  have hdg := fun W => numbers_any k c W
  unfold FbG FbC
  cases hg : isG n zs with
  | false =>
    rw [hg] at his
    clear h hg hdg
    go_enter Tryd.func16, Tryd.ntmps16
    go_wp2_with (go_at_call 29; refine his.mono ?_; rintro e w1 ⟨rfl, hb1⟩)
    go_ret2
    exact ⟨rfl, D0.trans (hb1.mono (by simp))⟩
  | true =>
    cases hkc : kcB k c with
    | false =>
      rw [hg] at his
      rw [hkc] at hdg
      clear h hg hkc
      go_enter Tryd.func16, Tryd.ntmps16
      go_wp2_with (first
        | (go_at_call 29; refine his.mono ?_; rintro e w1 ⟨rfl, hb1⟩)
        | (go_at_call 40; refine (hdg _).mono ?_; rintro e w' ⟨rfl, rfl⟩))
      go_ret2
      exact ⟨rfl, D0.trans (hb1.mono (by simp))⟩
    | true =>
      obtain ⟨h1, _, h3, _⟩ := isG_parts hg
      obtain ⟨b, off, cap, rfl, hb, hc⟩ := sl_some h (by omega)
      obtain rfl : (zs.length : Int) = n := h3
      have hkk := hkc
      unfold kcB at hkk
      simp only [Bool.and_eq_true, decide_eq_true_eq] at hkk
      have HF : Hid (∀ W, Below w.heap.size w W → Calls Tryd.prog 41 #[.agg #[.int .i64 zs.length, .slice (some ⟨b, off, none⟩) zs.length cap], .int .i64 k, .int .i64 c] W fun e w' => e = .returned (.bool (FbB zs k c)) ∧ Below W.heap.size W w') := fun W hW => fitsS_some b off cap zs k c W (Nat.lt_of_lt_of_le hb hW.size) (hc.below hW hb) hg (by omega) (by omega)
      have HR0 := Lib.hid (World.alloc_heap_new w (.cells #[.int .i64 zs.length, .slice (some ⟨b, off, none⟩) zs.length cap] 28))
      rw [hg] at his
      rw [hkc] at hdg
      have HD0 := Lib.hid D0
      clear h hg hkc hc hkk D0
      go_enter Tryd.func16, Tryd.ntmps16
      go_wp2_with (first
        | (go_at_call 29; refine his.mono ?_; rintro e w1 ⟨rfl, hb1⟩; obtain ⟨b0, b1, -, -⟩ := two_cells ((hb1.block w.heap.size (by simp)).trans HR0.out); have HB1 := Lib.hid (HD0.out.trans (hb1.mono (by simp))); clear hb1)
        | (go_at_call 40; refine (hdg _).mono ?_; rintro e w' ⟨rfl, rfl⟩)
        | (go_at_call 41; refine (HF.out _ HB1.out).mono ?_; rintro e w2 ⟨rfl, hb2⟩))
      go_ret2
      exact ⟨rfl, HB1.out.trans (hb2.mono HB1.out.size)⟩
end Go.Proofs.YtehpafbhejcbmaaDoor
