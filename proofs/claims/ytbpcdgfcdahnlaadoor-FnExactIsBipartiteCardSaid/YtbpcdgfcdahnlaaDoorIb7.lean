/-
  spec.l01Kinds: whether there are two kinds of vertices such that edges join both.
-/
import Derived.Test.YtbpcdgfcdahnlaaDoorIb6
import Derived.Test.YtbpcdgfcdahnlaaDoorGr
import Derived.Deep.RegionWith
import Derived.Deep.DeepCutAuto
import Derived.Deep.RegionHeld3
namespace Go.Proofs.YtbpcdgfcdahnlaaDoor
set_option maxRecDepth 100000
set_option maxRecDepth 100000
open Go.RowKit

/-- The first n values of a function. -/
def fnK (g : Nat → Int) (n : Nat) : List Int := (List.range n).map g
theorem fnK_length (g : Nat → Int) (n : Nat) : (fnK g n).length = n := by simp [fnK]
theorem fnK_at (g : Nat → Int) {n i : Nat} (h : i < n) : el (fnK g n) i = g i := by rw [el_lt (by rw [fnK_length]; exact h)]; simp [fnK]
theorem fnK_congr {f g : Nat → Int} {n : Nat} (h : ∀ i, i < n → f i = g i) : fnK f n = fnK g n := List.map_congr_left fun i hi => h i (List.mem_range.1 hi)
theorem fnK_set (g : Nat → Int) (n y : Nat) (v : Int) : (fnK g n).set y v = fnK (fun j => if j = y then v else g j) n := by
  refine ext_el (by rw [List.length_set, fnK_length, fnK_length]) fun i hi => ?_
  rw [List.length_set, fnK_length] at hi
  rw [fnK_at _ hi]
  by_cases e : i = y
  · rw [e, elSet_eq (by rw [fnK_length]; omega), if_pos rfl]
  · rw [elSet_ne e, fnK_at _ hi, if_neg e]
theorem fnK_zero (n : Nat) : List.replicate n (0 : Int) = fnK (fun _ => 0) n := by
  refine (List.eq_replicate_iff.2 ⟨by rw [fnK_length], fun x hx => ?_⟩).symm
  simp [fnK] at hx
  exact hx.2.symm ▸ rfl
theorem cell_same {w W : World} {g i : Nat} (h : W.heap[g]? = w.heap[g]?) : W.cell? ⟨g, i, none⟩ = w.cell? ⟨g, i, none⟩ := by unfold World.cell?; simp only [h]
/-- What stands behind the first line: a list for the kinds, and the leaders. -/
def RK (Wz : World) (zs : List Int) (s t : Value) (wx : World) : Prop := ∃ (gk gd cd : Nat) (E : List Int), s = .slice (some ⟨gk, 0, none⟩) zs.length zs.length ∧ t = .slice (some ⟨gd, 0, none⟩) zs.length cd ∧ Hid (Blk wx gk (List.replicate zs.length 0)) ∧
  Hid (∀ k, k < zs.length → wx.cell? ⟨gd, k, none⟩ = some (.int .i64 (el E k))) ∧ Hid (LdF zs E zs.length) ∧ gd ≠ gk ∧ Wz.heap.size ≤ gk ∧ Wz.heap.size ≤ gd ∧ gd < wx.heap.size ∧ Below Wz.heap.size Wz wx
theorem RK.mk {Wz w2 wx : World} {zs E : List Int} {u : Value} {B gk : Nat} (h0 : 0 < zs.length) (hO : Own w2 B u E) (hL : LdF zs E zs.length) (hB : Wz.heap.size ≤ B) (hb : Below w2.heap.size w2 wx) (hk : Blk wx gk (List.replicate zs.length 0)) (h1 : gk < B ∨ w2.heap.size ≤ gk) (h2 : Wz.heap.size ≤ gk) (hE : Below Wz.heap.size Wz wx) :
    RK Wz zs (.slice (some ⟨gk, 0, none⟩) zs.length zs.length) u wx := by
  rcases hO.form with ⟨_, e⟩ | ⟨gd, cd, e, g1, g2⟩
  · have := hL.len; rw [e] at this; simp at this; omega
  · rw [hL.len] at e
    subst e
    have hs := hb.size
    refine ⟨gk, gd, cd, E, rfl, rfl, hk, fun k hk => ?_, hL, by omega, h2, by omega, by omega, hE⟩
    have h := hO
    unfold Own at h; rw [hL.len] at h
    exact (hb.cell (p := ⟨gd, k, none⟩) g2).trans ((World.ownsRow.cellAt h k (by omega)).trans (map_at _ k (by rw [hL.len]; omega)))

theorem RK.first {Wz w2 : World} {zs E : List Int} {u : Value} (h0 : 0 < zs.length) (hO : Own w2 (Wz.drew.alloc (.cells (intsA (List.replicate zs.length 0)) 2)).heap.size u E) (hL : LdF zs E zs.length) (hb2 : Below (Wz.drew.alloc (.cells (intsA (List.replicate zs.length 0)) 2)).heap.size (Wz.drew.alloc (.cells (intsA (List.replicate zs.length 0)) 2)) w2) :
    RK Wz zs (.slice (some ⟨Wz.heap.size, 0, none⟩) zs.length zs.length) u w2 := by
  have e : (Wz.drew.alloc (.cells (intsA (List.replicate zs.length 0)) 2)).heap.size = Wz.heap.size + 1 := by rw [World.size_alloc]; rfl
  have hk : Blk w2 Wz.heap.size (List.replicate zs.length 0) := (Blk.new Wz.drew (List.replicate zs.length 0)).belowAll hb2
  have hE : Below Wz.heap.size Wz w2 := (((Below.refl Wz.heap.size Wz).drew).alloc (Nat.le_refl _) (.cells (intsA (List.replicate zs.length 0)) 2)).trans (hb2.mono (by omega))
  exact RK.mk h0 hO hL (by omega) (Below.refl _ _) hk (.inl (by omega)) (Nat.le_refl _) hE
theorem RK.last {Wz w2 : World} {zs E : List Int} {u : Value} (h0 : 0 < zs.length) (hO : Own w2 Wz.drew.heap.size u E) (hL : LdF zs E zs.length) (hb2 : Below Wz.drew.heap.size Wz.drew w2) :
    RK Wz zs (.slice (some ⟨w2.heap.size, 0, none⟩) zs.length zs.length) u (w2.alloc (.cells (intsA (List.replicate zs.length 0)) 2)) := by
  have s2 : Wz.heap.size ≤ w2.heap.size := hb2.size
  have hE : Below Wz.heap.size Wz w2 := ((Below.refl Wz.heap.size Wz).drew).trans hb2
  exact RK.mk (B := Wz.heap.size) h0 hO hL (Nat.le_refl _) ((Below.refl _ _).alloc (Nat.le_refl _) _) (Blk.new w2 _) (.inr (Nat.le_refl _)) s2 (hE.alloc s2 _)
theorem RK.box1 {Wz w2 : World} {a b off cap : Nat} {n : Int} {zs : List Int} (hG : GBox Wz a n b off cap zs) (h : Below Wz.drew.heap.size Wz.drew w2) : GBox w2 a n b off cap zs :=
  hG.below (Below.mono (((Below.refl Wz.heap.size Wz).drew).trans h) (by have := hG.lt; omega))
theorem RK.box2 {Wz w2 : World} {a b off cap : Nat} {n : Int} {zs : List Int} {o : Obj} (hG : GBox Wz a n b off cap zs) (h : Below (Wz.drew.alloc o).heap.size (Wz.drew.alloc o) w2) : GBox w2 a n b off cap zs :=
  hG.below (Below.mono ((((Below.refl Wz.heap.size Wz).drew).alloc (Nat.le_refl _) o).trans (h.mono (by rw [World.size_alloc]; exact Nat.le_succ _))) (by have := hG.lt; omega))

theorem lead_iff0 {zs D : List Int} {v : Nat} (h : LdF zs D zs.length) (hv : v < zs.length) : leadB zs v = decide (el D v = (v : Int)) := by
  obtain ⟨u, hu, hl⟩ := ldB_ex hv
  have e := h.met v u hv (by omega) hl
  rw [Bool.eq_iff_iff, leadB_iff, decide_eq_true_iff, e]
  constructor
  · intro hn
    have : ¬ u < v := fun hlt => hn u hlt hl.1
    omega
  · intro e2 y hy
    exact hl.2 y (by omega)

set_option maxHeartbeats 6400000 in
theorem kinds_some (b off cap : Nat) (zs : List Int) (w : World) (hb : b < w.heap.size) (hc : Cells w b off zs) (hg : isG zs.length zs = true) :
    Calls Tryd.prog 63 #[.agg #[.int .i64 zs.length, .slice (some ⟨b, off, none⟩) zs.length cap]] w fun e w' => (∃ u : Value, e = .returned (.tuple #[u, .bool (bipB zs)])) ∧ Below w.heap.size w w' := by
  obtain ⟨g1, g2, -, -, -⟩ := isG_parts hg
  have hm62 : zs.length ≤ 62 := by omega
  obtain ⟨r, hr⟩ : ∃ r, r = bipB zs := ⟨_, rfl⟩
  have HRY : Hid (bipP zs → r = true) := fun h => by rw [hr]; exact bipB_yes h
  have HRN : Hid (¬ bipP zs → r = false) := fun h => by rw [hr]; exact bipB_no h
  rw [← hr]
  clear hr
  obtain ⟨Wz, hWz⟩ : ∃ Wz, Wz = w.alloc (.cells #[.int .i64 zs.length, .slice (some ⟨b, off, none⟩) zs.length cap] 28) := ⟨_, rfl⟩
  have hsz : w.heap.size + 1 ≤ Wz.heap.size := by rw [hWz]; simp
  have D0 : Below w.heap.size w Wz := by rw [hWz]; exact (Below.refl _ _).alloc (Nat.le_refl _) _
  have HG0 : Hid (GBox Wz w.heap.size (zs.length : Int) b off cap zs) := by show GBox _ _ _ _ _ _ _; rw [hWz]; exact GBox.new (n := zs.length) (cap := cap) hb hc
  have HLD : Hid (∀ W, Below Wz.heap.size Wz W → Calls Tryd.prog 57 #[.agg #[.int .i64 zs.length, .slice (some ⟨b, off, none⟩) zs.length cap]] W fun e w' => ∃ u D, e = .returned u ∧ Own w' W.heap.size u D ∧ LdF zs D zs.length ∧ Below W.heap.size W w') := fun W h =>
    leadersF_some b off cap zs W (Nat.lt_of_lt_of_le (show b < Wz.heap.size by omega) h.size) ((hc.below D0 hb).below h (by omega)) hg
  obtain ⟨i0, hi, hz0, hz1, hz2⟩ := info_parts mk_info
  have HI := Lib.hid hi; have HI0 := Lib.hid hz0; have HI1 := Lib.hid hz1; have HI2 := Lib.hid hz2
  have HG := Lib.hid hg
  have hmk := run_mkInts zs.length (by omega)
  have HD0 := Lib.hid D0
  have a0 := HG0.out.b0
  have a1 := HG0.out.b1
  have hzp : 0 < zs.length := by omega
  clear hc hg D0 hi hz0 hz1 hz2
  go_enter Tryd.func63, Tryd.ntmps63
  go_upto_region 1 with fail
  rw [← hWz]
  clear hWz
  go_cut [4, 5] from 17 (fun s t wx => RK Wz zs s t wx)
  case first =>
    have p1 : w.heap.size < Wz.heap.size := by omega
    have p2 : ¬ w.heap.size = Wz.heap.size := by omega
    go_region_with (go_at_call 57; refine (HLD.out _ (by first | exact (Below.refl _ _).drew | exact ((Below.refl _ _).drew).alloc (by simp) _)).mono ?_; rintro e w2 ⟨u, E, rfl, hO, hL, hb2⟩; have GA : GBox w2 w.heap.size (zs.length : Int) b off cap zs := (by first | exact RK.box1 HG0.out hb2 | exact RK.box2 HG0.out hb2); have c0 := GA.b0; have c1 := GA.b1)
    all_goals
      go_wp2_with fail
      go_meet
      first
        | exact RK.first hzp hO hL hb2
        | exact RK.last hzp hO hL hb2
  case rest =>
  obtain ⟨gk, gd, cd, E, rfl, rfl, HK0, HCE, HLE, hkd, k1, k2, k3, hB0⟩ := hcut
  have HB1 : Hid (Blk wc gk (fnK (fun i => if i < 0 then -1 else 0) zs.length)) := by
    show Blk _ _ _
    rw [show (fun i : Nat => if i < 0 then (-1 : Int) else 0) = fun _ => 0 by funext i; simp, ← fnK_zero]; exact HK0.out
  have hkl := HK0.out.lt
  clear a0 a1 HK0 HLD
  go_wp2_with fail
  go_loopw [6] (fun t wr => ∃ v : Nat, v ≤ zs.length ∧ t = .int .i64 v ∧ Hid (Blk wr gk (fnK (fun i => if i < v then -1 else 0) zs.length)) ∧ Hid (wr.heap[gd]? = wc.heap[gd]?) ∧ Below Wz.heap.size Wz wr ∧ wc.heap.size ≤ wr.heap.size) (fun t _ => zs.length - (intOf t).toNat)
  case atStart => exact ⟨0, Nat.zero_le _, rfl, HB1, rfl, hB0, Nat.le_refl _⟩
  case round =>
    clear HB1 hB0
    obtain ⟨v, hv, rfl, HB, HK, hE, hs⟩ := hrel
    have b0 := (HG0.out.below (hE.mono hsz)).b0
    have b1 := (HG0.out.below (hE.mono hsz)).b1
    by_cases hlt : (v : Int) < zs.length
    · have hvl : v < zs.length := by omega
      have hv0 : (0 : Int) ≤ v := by omega
      have cK := HB.out.cell (i := v) (by rw [fnK_length]; exact hvl)
      have fK := HB.out.frozen v
      have HN : Hid (Blk (wr.setCell ⟨gk, v, none⟩ (.int .i64 (-1))) gk (fnK (fun i => if i < v + 1 then -1 else 0) zs.length)) := by
        have h := HB.out.set v (-1)
        rw [fnK_set] at h
        have e : (fun j : Nat => if j = v then (-1 : Int) else if j < v then -1 else 0) = fun i => if i < v + 1 then -1 else 0 := by
          funext j
          by_cases e : j = v
          · rw [if_pos e, if_pos (by omega)]
          · by_cases e2 : j < v
            · rw [if_neg e, if_pos e2, if_pos (by omega)]
            · rw [if_neg e, if_neg e2, if_neg (by omega)]
        rw [e] at h
        exact h
      have HK2 : Hid ((wr.setCell ⟨gk, v, none⟩ (.int .i64 (-1))).heap[gd]? = wc.heap[gd]?) := (Below.heap_setCell _ _ _ _ (by simpa using hkd)).trans HK.out
      have hE2 := hE.setCell (p := ⟨gk, v, none⟩) (by simpa using k1) (.int .i64 (-1))
      have hs2 : wc.heap.size ≤ (wr.setCell ⟨gk, v, none⟩ (.int .i64 (-1))).heap.size := by simpa using hs
      clear HB HK hE
      go_wp2
      go_roundw
      case rel => exact ⟨v + 1, by omega, by go_num, HN, HK2, hE2, hs2⟩
      case measure => simp [intOf]; omega
    · obtain rfl : v = zs.length := by omega
      have HB2 : Hid (Blk wr gk (List.replicate zs.length (-1))) := by
        have h := HB.out
        have e : fnK (fun i => if i < zs.length then -1 else 0) zs.length = List.replicate zs.length (-1 : Int) := by
          refine ext_el (by rw [fnK_length, List.length_replicate]) fun i hi => ?_
          rw [fnK_length] at hi
          rw [fnK_at _ hi, if_pos hi, elRep hi]
        rw [e] at h
        exact h
      have HL0 : Hid (LdF zs (List.replicate zs.length (-1)) 0) := LdF.start (zs := zs) (fun a c ha hc => isG_symm HG.out ha hc)
      have HO0 : Hid (KO zs (List.replicate zs.length (-1)) (List.replicate zs.length (-1))) := KO.start
      clear HB
      go_wp2
      clear b0 b1
      go_loopw [7] (fun t wr => ∃ (v : Nat) (D K : List Int), t = .int .i64 v ∧ v ≤ zs.length ∧ Hid (LdF zs D v) ∧ Hid (KO zs D K) ∧ Hid (Blk wr gk K) ∧ Hid (wr.heap[gd]? = wc.heap[gd]?) ∧ Below Wz.heap.size Wz wr ∧ wc.heap.size ≤ wr.heap.size) (fun t _ => zs.length - (intOf t).toNat)
      case atStart => exact ⟨0, _, _, rfl, Nat.zero_le _, HL0, HO0, HB2, HK, hE, hs⟩
      case round =>
        clear HL0 HO0 HB2 HK hE hs
        obtain ⟨v, D0, K0, rfl, hv, HL, HKO, HB, HK, hE, hs⟩ := hrel
        have b0 := (HG0.out.below (hE.mono hsz)).b0
        have b1 := (HG0.out.below (hE.mono hsz)).b1
        by_cases hlt2 : (v : Int) < zs.length
        · have hvl : v < zs.length := by omega
          have hv0 : (0 : Int) ≤ v := by omega
          obtain ⟨d, hd⟩ : ∃ d, d = el E v := ⟨_, rfl⟩
          have hcv : wr.cell? ⟨gd, v, none⟩ = some (.int .i64 d) := by rw [hd]; exact (cell_same HK.out).trans (HCE.out v hvl)
          have hfst := HL.out.first hvl
          rw [lead_iff0 HLE.out hvl, ← hd] at hfst
          by_cases he : d = (v : Int)
          · have t1 : (d != (v : Int)) = false := by rw [bne_eq_false_iff_eq]; exact he
            have hneg : el D0 v < 0 := hfst.2 (by simpa using he)
            have HP0 : Hid (PInv zs v D0 (D0.set v (v : Int)) [v] 0 0) := PInv.start HL.out.len hvl hneg
            have HI0' : Hid (KI zs D0 (D0.set v (v : Int)) [v] (K0.set v 0) 0 0) := KI.start HL.out HKO.out hvl hneg
            have cK := HB.out.cell (i := v) (by rw [HKO.out.len]; exact hvl)
            have fK := HB.out.frozen v
            obtain ⟨w2, h2⟩ : ∃ w2, w2 = (wr.setCell ⟨gk, v, none⟩ (.int .i64 0)).alloc (.cells #[.int .i64 v] 2) := ⟨_, rfl⟩
            have hss : (wr.setCell ⟨gk, v, none⟩ (.int .i64 0)).heap.size = wr.heap.size := by simp
            have B2 : Hid (Blk w2 gk (K0.set v 0)) := by show Blk _ _ _; rw [h2]; exact (HB.out.set v 0).alloc _
            have L2 : Hid (Own w2 wc.heap.size (.slice (some ⟨wr.heap.size, 0, none⟩) [v].length 1) (nI [v])) := by
              have hk := Blk.new (wr.setCell ⟨gk, v, none⟩ (.int .i64 0)) [(v : Int)]
              rw [hss] at hk
              show Own _ _ _ _
              rw [h2]
              exact Own.of_blk hk (B := wc.heap.size) hs (by unfold maxLen; simp [nI])
            have K2 : Hid (w2.heap[gd]? = wc.heap[gd]?) := by
              show _ = _
              rw [h2]
              exact ((Below.heap_alloc _ _ _ (by rw [hss]; omega)).trans (Below.heap_setCell _ _ _ _ (by simpa using hkd))).trans HK.out
            have E2 : Below Wz.heap.size Wz w2 := by rw [h2]; exact (hE.setCell (p := ⟨gk, v, none⟩) (by simpa using k1) _).alloc (by rw [hss]; exact hE.size) _
            have S2 : wc.heap.size ≤ w2.heap.size := by rw [h2, World.size_alloc, hss]; omega
            have HHN := Lib.hid hneg
            clear he hd hfst hneg
            go_wp2
            rw [← h2]
            clear h2 hcv cK fK HB HK hE b0 b1 hss
            obtain ⟨gl0, hgl0⟩ : ∃ g, g = wr.heap.size := ⟨_, rfl⟩
            rw [← hgl0] at L2 ⊢
            clear hgl0
            go_loopw [8, 9] (fun ul t wr => ∃ (Q : List Nat) (D K : List Int) (i gl capl : Nat), t = .int .i64 i ∧ ul = .slice (some ⟨gl, 0, none⟩) Q.length capl ∧ i ≤ Q.length ∧ Hid (PInv zs v D0 D Q i 0) ∧ Hid (KI zs D0 D Q K i 0) ∧ Hid (Blk wr gk K) ∧ Hid (Own wr wc.heap.size (.slice (some ⟨gl, 0, none⟩) Q.length capl) (nI Q)) ∧ Hid (wr.heap[gd]? = wc.heap[gd]?) ∧ Below Wz.heap.size Wz wr ∧ wc.heap.size ≤ wr.heap.size) (fun _ t _ => zs.length - (intOf t).toNat)
            case atStart => exact ⟨[v], _, _, 0, gl0, 1, rfl, rfl, by simp, HP0, HI0', B2, L2, K2, E2, S2⟩
            case round =>
              clear HP0 HI0' B2 L2 K2 E2 S2 hs
              obtain ⟨Q, D, K, i, gl, capl, rfl, rfl, hi2, HQ, HKI, HB, HQL, HK, hE, hs⟩ := hrel
              have hql := HQ.out.qlen
              by_cases hkq : (i : Int) < Q.length
              · have hkl2 : i < Q.length := by omega
                obtain ⟨x, hx⟩ : ∃ x, Q[i]? = some x := ⟨_, List.getElem?_eq_getElem hkl2⟩
                have hxn := HQ.out.qlt x (List.mem_of_getElem? hx)
                have hi0 : (0 : Int) ≤ i := by omega
                have HC : Hid (∀ W, Below wr.heap.size wr W → W.cell? ⟨w.heap.size, 0, none⟩ = some (.int .i64 zs.length) ∧ W.cell? ⟨w.heap.size, 1, none⟩ = some (.slice (some ⟨b, off, none⟩) zs.length cap) ∧ W.cell? ⟨gl, i, none⟩ = some (.int .i64 x)) := fun W hW => by
                  have GW := HG0.out.below ((hE.trans (hW.mono hE.size)).mono hsz)
                  refine ⟨GW.b0, GW.b1, ?_⟩
                  have hlo := HQL.out.below hW
                  unfold Own at hlo; rw [nI_length] at hlo
                  exact (World.ownsRow.cellAt hlo i (by omega)).trans ((map_at _ i (by rw [nI_length]; omega)).trans (by rw [nI_at hx]))
                obtain ⟨c0, c1, c2⟩ := HC.out wr (Below.refl _ _)
                have HNB : Hid (∀ W, Below wr.heap.size wr W → Calls Tryd.prog 88 #[.agg #[.int .i64 zs.length, .slice (some ⟨b, off, none⟩) zs.length cap], .int .i64 x] W fun e w' => ∃ u, e = .returned u ∧ Own w' W.heap.size u (nbL zs x zs.length) ∧ Below W.heap.size W w') := fun W hW => by
                  have GW := HG0.out.below ((hE.trans (hW.mono hE.size)).mono hsz)
                  exact l01Nb_some zs.length b off cap zs x W GW.lb GW.cells HG.out hxn
                have hszw : w.heap.size < wr.heap.size := by have := hE.size; omega
                go_wp2_with fail
                go_region_held3 (fun w' => w'.cell? ⟨w.heap.size, 0, none⟩ = some (.int .i64 zs.length) ∧ w'.cell? ⟨w.heap.size, 1, none⟩ = some (.slice (some ⟨b, off, none⟩) zs.length cap) ∧ w'.cell? ⟨gl, i, none⟩ = some (.int .i64 x))
                  (go_keep)
                  (first | (go_at_call 88; refine (HNB.out _ ((Below.refl _ _).drew)).mono ?_; rintro e w5 ⟨un, rfl, hON, hb5⟩; have hb6 : Below wr.heap.size wr w5 := bdrew3 hb5 (by simp); obtain ⟨c0, c1, c2⟩ := HC.out w5 hb6; obtain ⟨na, nc, rfl⟩ : ∃ a c, un = .slice a (nbL zs x zs.length).length c := ⟨_, _, slForm hON.sl⟩))
                have hON2 : Own w5 wr.heap.size (.slice na (nbL zs x zs.length).length nc) (nbL zs x zs.length) := hON.base (by simp)
                have HB5 := Lib.hid (HB.out.belowAll hb6)
                have HQ5 := Lib.hid (HQL.out.below hb6)
                have HK5 : Hid (w5.heap[gd]? = wc.heap[gd]?) := (hb6.block _ (by omega)).trans HK.out
                have hE5 := hE.trans (hb6.mono hE.size)
                have s5 := hb6.size
                have hs5 : wc.heap.size ≤ w5.heap.size := by omega
                have hgllt := HQL.out.lt gl rfl
                clear hb5 hb6 c0 c1 c2 HC HNB HB HQL HK hE hON
                rcases hON2.form with ⟨e1, e2⟩ | ⟨gn, cn, e1, hgn1, hgn2⟩
                · obtain ⟨rfl, -, rfl⟩ : na = none ∧ (nbL zs x zs.length).length = 0 ∧ nc = 0 := by
                    rw [e2] at e1; cases e1; exact ⟨rfl, by rw [e2]; rfl, rfl⟩
                  have hz : (nbN zs x).length = 0 := by
                    have := congrArg List.length e2
                    rw [nbN_map, List.length_map] at this
                    simpa using this
                  have hl0 : (nbL zs x zs.length).length = 0 := by rw [e2]; rfl
                  have HN : Hid (PInv zs v D0 D Q (i + 1) 0) := PInv.next hx (by rw [hz]; exact HQ.out)
                  have HN2 : Hid (KI zs D0 D Q K (i + 1) 0) := KI.next hx (by rw [hz]; exact HKI.out)
                  rw [hl0]
                  clear e1 e2 hON2 HQ HKI
                  go_wp2
                  go_loopw [8, 11] (fun ul t wr => t = .int .i64 0 ∧ ul = .slice (some ⟨gl, 0, none⟩) Q.length capl ∧ wr = w5) (fun _ t _ => 0)
                  case atStart => exact ⟨rfl, rfl, rfl⟩
                  case round =>
                    obtain ⟨rfl, rfl, rfl⟩ := hrel
                    go_wp2
                    go_roundw
                    case rel => exact ⟨Q, D, K, i + 1, gl, capl, by go_num, rfl, by omega, HN, HN2, HB5, HQ5, HK5, hE5, hs5⟩
                    case measure => simp [intOf]; omega
                · obtain ⟨rfl, rfl⟩ : na = some ⟨gn, 0, none⟩ ∧ nc = cn := by cases e1; exact ⟨rfl, rfl⟩
                  obtain ⟨ln, hln⟩ : ∃ ln, ln = (nbN zs x).length := ⟨_, rfl⟩
                  have hll : (nbL zs x zs.length).length = ln := by rw [hln, nbN_map, List.length_map]
                  have hl62 : ln ≤ 62 := by
                    rw [hln]
                    have : (nbN zs x).length ≤ zs.length := by unfold nbN; exact Nat.le_trans (List.length_filter_le _ _) (by simp)
                    omega
                  have hn1 : gl ≠ gn := by omega
                  have hnk : gn ≠ gk := by omega
                  have HON := Lib.hid (hON2.base (B' := wc.heap.size) (by omega))
                  rw [hll] at HON ⊢
                  have HLN := Lib.hid hln; have HLL := Lib.hid hll
                  clear e1 hON2 hln hll
                  go_wp2
                  go_loopw [8, 11] (fun ul t wr => ∃ (Q : List Nat) (D K : List Int) (m gl capl : Nat), t = .int .i64 m ∧ ul = .slice (some ⟨gl, 0, none⟩) Q.length capl ∧ m ≤ ln ∧ Q[i]? = some x ∧ Hid (PInv zs v D0 D Q i m) ∧ Hid (KI zs D0 D Q K i m) ∧ Hid (Blk wr gk K) ∧ Hid (Own wr wc.heap.size (.slice (some ⟨gl, 0, none⟩) Q.length capl) (nI Q)) ∧ Hid (Own wr wc.heap.size (.slice (some ⟨gn, 0, none⟩) ln nc) (nbL zs x zs.length)) ∧ gl ≠ gn ∧ Hid (wr.heap[gd]? = wc.heap[gd]?) ∧ Below Wz.heap.size Wz wr ∧ wc.heap.size ≤ wr.heap.size) (fun _ t _ => ln - (intOf t).toNat)
                  case atStart => exact ⟨Q, D, K, 0, gl, capl, rfl, rfl, Nat.zero_le _, hx, HQ, HKI, HB5, HQ5, HON, hn1, HK5, hE5, hs5⟩
                  case round =>
                    clear HQ HKI HB5 HQ5 HON HK5 hE5 hs5 hn1 hx hql hkq hkl2 hi2 hgllt s5 hs
                    obtain ⟨Q, D, K, m, gl, capl, rfl, rfl, hm, hx, HQ, HKI, HB, HQL, HON, hn1, HK, hE, hs⟩ := hrel
                    have hql := HQ.out.qlen
                    have hil : i < Q.length := (List.getElem?_eq_some_iff.1 hx).1
                    have hglb : wc.heap.size ≤ gl := HQL.out.ge gl rfl
                    have hgnb : wc.heap.size ≤ gn := HON.out.ge gn rfl
                    by_cases hlm : (m : Int) < ln
                    · have hml : m < ln := by omega
                      have hm0 : (0 : Int) ≤ m := by omega
                      have hi0 : (0 : Int) ≤ i := by omega
                      have hil2 : (i : Int) < Q.length := by omega
                      obtain ⟨y, hy⟩ : ∃ y, (nbN zs x)[m]? = some y := ⟨_, List.getElem?_eq_getElem (by rw [← HLN.out]; exact hml)⟩
                      have hyl := (nbN_mem.1 (List.mem_of_getElem? hy)).1
                      have hxl := HQ.out.qlt x (List.mem_of_getElem? hx)
                      have hcn : wr.cell? ⟨gn, m, none⟩ = some (.int .i64 y) := by
                        have h := HON.out
                        unfold Own at h; rw [HLL.out] at h
                        refine (World.ownsRow.cellAt h m (by omega)).trans ((map_at _ m (by rw [HLL.out]; exact hml)).trans ?_)
                        have : el (nbL zs x zs.length) m = (y : Int) := by rw [nbN_map]; unfold el; simp [hy]
                        rw [this]
                      have hcl : wr.cell? ⟨gl, i, none⟩ = some (.int .i64 x) := by
                        have hlo := HQL.out
                        unfold Own at hlo; rw [nI_length] at hlo
                        exact (World.ownsRow.cellAt hlo i (by omega)).trans ((map_at _ i (by rw [nI_length]; omega)).trans (by rw [nI_at hx]))
                      obtain ⟨dy, hdy⟩ : ∃ d, d = el K y := ⟨_, rfl⟩
                      obtain ⟨dx, hdx⟩ : ∃ d, d = el K x := ⟨_, rfl⟩
                      have hcy : wr.cell? ⟨gk, y, none⟩ = some (.int .i64 dy) := by rw [hdy]; exact HB.out.cell (by rw [HKI.out.len]; exact hyl)
                      have hcx : wr.cell? ⟨gk, x, none⟩ = some (.int .i64 dx) := by rw [hdx]; exact HB.out.cell (by rw [HKI.out.len]; exact hxl)
                      have hfy := HB.out.frozen y
                      have hy0 : (0 : Int) ≤ y := by omega
                      have hyz : (y : Int) < zs.length := by omega
                      have hx0 : (0 : Int) ≤ x := by omega
                      have hxz : (x : Int) < zs.length := by omega
                      by_cases heq : dy = dx
                      · have t1 : (dy == dx) = true := by rw [beq_iff_eq]; exact heq
                        have hno : ¬ bipP zs := KI.clash HL.out hvl HHN.out HKI.out HQ.out hx hy (by rw [← hdy, ← hdx]; exact heq)
                        have HNO := Lib.hid (HRN.out hno)
                        have D3 := Lib.hid (HD0.out.trans (hE.mono (by omega)))
                        clear heq hno hdy hdx hy HQ HKI
                        go_wp2_with fail
                        go_region
                        go_wp2
                        go_ret2
                        exact ⟨⟨_, by rw [HNO.out]; rfl⟩, D3.out.trans ((Below.refl _ _).drew)⟩
                      · have t1 : (dy == dx) = false := by rw [beq_eq_false_iff_ne]; exact heq
                        have HNE := Lib.hid heq
                        have hglk : gl ≠ gk := by omega
                        have hgnk : gn ≠ gk := by omega
                        have HDY := Lib.hid hdy
                        have HDX := Lib.hid hdx
                        clear hdy hdx heq
                        go_wp2_with fail
                        go_region
                        obtain ⟨w2, hw2⟩ : ∃ w2, w2 = wr.drew := ⟨_, rfl⟩
                        rw [← hw2]
                        have hb2 : Below wr.heap.size wr w2 := by rw [hw2]; exact (Below.refl _ _).drew
                        have z2 : w2.heap.size = wr.heap.size := by rw [hw2]; rfl
                        have HB2 := Lib.hid (HB.out.belowAll hb2)
                        have HQ2 := Lib.hid (HQL.out.below hb2)
                        have HO2 := Lib.hid (HON.out.below hb2)
                        have HK2 : Hid (w2.heap[gd]? = wc.heap[gd]?) := (hb2.block _ (by omega)).trans HK.out
                        have hE2 := hE.trans (hb2.mono hE.size)
                        have hs2 : wc.heap.size ≤ w2.heap.size := by omega
                        have ln2 := HON.out.lt gn rfl
                        have ll2 := HQL.out.lt gl rfl
                        have kn2 : w2.cell? ⟨gn, m, none⟩ = some (.int .i64 y) := (hb2.cell (p := ⟨gn, m, none⟩) ln2).trans hcn
                        have kl2 : w2.cell? ⟨gl, i, none⟩ = some (.int .i64 x) := (hb2.cell (p := ⟨gl, i, none⟩) ll2).trans hcl
                        have ky2 : w2.cell? ⟨gk, y, none⟩ = some (.int .i64 dy) := (hb2.cell (p := ⟨gk, y, none⟩) HB.out.lt).trans hcy
                        have kx2 : w2.cell? ⟨gk, x, none⟩ = some (.int .i64 dx) := (hb2.cell (p := ⟨gk, x, none⟩) HB.out.lt).trans hcx
                        have fy2 := HB2.out.frozen y
                        clear hw2 hb2 HB HQL HON HK hE hs hcn hcl hcy hcx hfy z2 ln2 ll2
                        have hvy := HKI.out.vis y hyl
                        have hvx := HKI.out.vis x hxl
                        have hrx := HKI.out.rng x hxl
                        have hDx := HQ.out.inQ x (List.mem_of_getElem? hx)
                        rw [← HDY.out] at hvy
                        rw [← HDX.out] at hvx hrx
                        by_cases hneg : dy < 0
                        · have hDn : el D y < 0 := by omega
                          have HN : Hid (PInv zs v D0 (D.set y (v : Int)) (Q ++ [y]) i (m + 1)) := HQ.out.push hvl hx hy hDn
                          have HN2 : Hid (KI zs D0 (D.set y (v : Int)) (Q ++ [y]) (K.set y (1 - dx)) i (m + 1)) := by show KI _ _ _ _ _ _ _; rw [HDX.out]; exact HKI.out.push HQ.out hx hy hDn
                          have hdx2 : 0 ≤ dx ∧ dx ≤ 1 := by omega
                          obtain ⟨hd0, hd1⟩ := hdx2
                          have hwv : IntKind.i64.wrap (1 - dx) = 1 - dx := IntWalk.i64_in _ ⟨by omega, by omega⟩
                          have hxq : (Q ++ [y])[i]? = some x := by rw [List.getElem?_append_left hil]; exact hx
                          clear HQ HKI hy HDY HDX hvy hvx hrx hDx hDn
                          go_wp2_with fail
                          go_region
                          obtain ⟨w4, hw4⟩ : ∃ w4, w4 = (w2.setCell ⟨gk, y, none⟩ (.int .i64 (1 - dx))).drew := ⟨_, rfl⟩
                          rw [← hw4]
                          have hg4 : w2.grownBy w4 (some gk) := by rw [hw4]; exact grown_trans (grown_set ⟨rfl, rfl, rfl, Nat.le_refl _, fun _ _ _ => rfl⟩ gk y _) (grown_drew _ _)
                          have HB4 : Hid (Blk w4 gk (K.set y (1 - dx))) := by show Blk _ _ _; rw [hw4]; exact HB2.out.set y (1 - dx)
                          have e4 := hg4.size
                          have HQ4 := Lib.hid (HQ2.out.kept hg4 (.inr (by simp [Value.ownBlock]; exact hglk)))
                          have HO4 := Lib.hid (HO2.out.kept hg4 (.inr (by simp [Value.ownBlock]; exact hgnk)))
                          have HK4 : Hid (w4.heap[gd]? = wc.heap[gd]?) := (hg4.block _ (by omega) (fun e => by injection e with e; omega)).trans HK2.out
                          have hE4 := hE2.grown hg4 hE2.size (fun q e => by injection e with e; omega)
                          have hs4 : wc.heap.size ≤ w4.heap.size := by omega
                          have ln4 := HO2.out.lt gn rfl
                          have kn4 : w4.cell? ⟨gn, m, none⟩ = some (.int .i64 y) := by
                            have h := HO4.out
                            unfold Own at h; rw [HLL.out] at h
                            refine (World.ownsRow.cellAt h m (by omega)).trans ((map_at _ m (by rw [HLL.out]; exact hml)).trans ?_)
                            have h2 := HO2.out
                            unfold Own at h2; rw [HLL.out] at h2
                            have h3 := (World.ownsRow.cellAt h2 m (by omega)).trans (map_at _ m (by rw [HLL.out]; exact hml))
                            rw [kn2] at h3
                            exact h3.symm
                          have HLW : Hid (w4.ownsRow wc.heap.size 2 1 (.slice (some ⟨gl, 0, none⟩) Q.length capl) Q.length ((nI Q).map (Value.int .i64))) := by
                            have := HQ4.out; unfold Own at this; rw [nI_length] at this; exact this
                          have lk4 := HB4.out.lt
                          have ll4 := HQ4.out.lt gl rfl
                          have hEa := hE4.alloc hE4.size (.cells #[.int .i64 (y : Int)] 2)
                          clear hw4 hg4 HB2 HQ2 HO2 HK2 hE2 kn2 kl2 ky2 kx2 fy2 HQ4
                          go_wp2_with (at_builtin; refine wpList_append_lies _ rfl _ _ 22 rfl wc.heap.size 2 i0 (.int .i64 0) 1 8 Tryd.underlying22 HI.out HI0.out HI1.out HI2.out rfl (by decide) (.slice (some ⟨gl, 0, none⟩) Q.length capl) Q.length _ rfl (World.ownsRow.alloc HLW.out _) ⟨w4.heap.size, 0, none⟩ 1 1 [.int .i64 y] rfl rfl (cell_one_new _ _ _) (by simp [Value.oneCell']) (by decide) (by unfold maxLen; omega) (by omega) (by simp; omega) (w4.heap.size + 1) (by simp) ?_; intro gg cp w3 hown3 hgr3 hat3 hlt3)
                          have hat4 : gg = gl ∨ gg = w4.heap.size + 1 := by
                            rcases hat3 with h | h
                            · exact .inl (by have : gl = gg := by simpa [Value.ownBlock] using h
                                             omega)
                            · exact .inr h
                          have hne4 : gg ≠ gn := by omega
                          have HB3 : Hid (Blk w3 gk (K.set y (1 - dx))) := (hgr3.block gk (by simp; omega) (by simp [Value.ownBlock]; omega)).trans (HB4.out.alloc _)
                          have HO3 : Hid (Own w3 wc.heap.size (.slice (some ⟨gn, 0, none⟩) ln nc) (nbL zs x zs.length)) := (show Own _ _ _ _ from World.ownsRow.alloc HO4.out _).kept hgr3 (.inr (by simp [Value.ownBlock]; omega))
                          have HL3 : Hid (Own w3 wc.heap.size (.slice (some ⟨gg, 0, none⟩) (Q ++ [y]).length cp) (nI (Q ++ [y]))) := by
                            show World.ownsRow _ _ _ _ _ _ _
                            rw [nI_length, nI_append, List.map_append, List.length_append]
                            exact hown3
                          have HK3 : Hid (w3.heap[gd]? = wc.heap[gd]?) := (hgr3.block gd (by simp; omega) (by simp [Value.ownBlock]; omega)).trans ((Below.heap_alloc _ _ _ (by omega)).trans HK4.out)
                          have hE3 := hEa.grown hgr3 (by have := hE4.size; simp; omega) (fun q e => by have h9 : gl = q := (by simpa [Value.ownBlock] using e); omega)
                          have hs3 : wc.heap.size ≤ w3.heap.size := by have := hgr3.size; simp at this; omega
                          clear hown3 hgr3 hat3 hat4 HLW HB4 HO4 HK4 hE4 hEa kn4
                          go_wp2
                          go_roundw
                          case rel => exact ⟨Q ++ [y], D.set y (v : Int), K.set y (1 - dx), m + 1, gg, cp, by go_num, by rw [List.length_append]; rfl, by omega, hxq, HN, HN2, HB3, HL3, HO3, hne4, HK3, hE3, hs3⟩
                          case measure => simp [intOf]; omega
                        · have hDn : 0 ≤ el D y := by omega
                          have HN : Hid (PInv zs v D0 D Q i (m + 1)) := HQ.out.skip hx hy hDn
                          have HN2 : Hid (KI zs D0 D Q K i (m + 1)) := HKI.out.skip hx hy (by rw [← HDY.out, ← HDX.out]; exact HNE.out)
                          clear HQ HKI hy HDY HDX hvy hvx hrx hDx hDn
                          go_wp2
                          go_roundw
                          case rel => exact ⟨Q, D, K, m + 1, gl, capl, by go_num, rfl, by omega, hx, HN, HN2, HB2, HQ2, HO2, hn1, HK2, hE2, hs2⟩
                          case measure => simp [intOf]; omega
                    · obtain rfl : m = ln := by omega
                      have HN : Hid (PInv zs v D0 D Q (i + 1) 0) := PInv.next hx (by rw [← HLN.out]; exact HQ.out)
                      have HN2 : Hid (KI zs D0 D Q K (i + 1) 0) := KI.next hx (by rw [← HLN.out]; exact HKI.out)
                      clear HQ HKI HON
                      go_wp2
                      go_roundw
                      case rel => exact ⟨Q, D, K, i + 1, gl, capl, by go_num, rfl, by omega, HN, HN2, HB, HQL, HK, hE, hs⟩
                      case measure => simp [intOf]; omega
              · obtain rfl : i = Q.length := by omega
                have HLN : Hid (LdF zs D (v + 1)) := HL.out.pass hvl HHN.out HQ.out
                have HKN : Hid (KO zs D K) := HKI.out.pass HQ.out
                clear HQ HKI HQL
                go_wp2
                go_roundw
                case rel => exact ⟨v + 1, D, K, by go_num, by omega, HLN, HKN, HB, HK, hE, hs⟩
                case measure => simp [intOf]; omega
          · have t1 : (d != (v : Int)) = true := by rw [bne_iff_ne]; exact he
            have hnn : 0 ≤ el D0 v := by
              refine Classical.byContradiction fun hno => he ?_
              have := hfst.1 (by omega)
              simpa using this
            have HLN : Hid (LdF zs D0 (v + 1)) := HL.out.skip hvl hnn
            clear he hd hfst hnn
            go_wp2
            go_roundw
            case rel => exact ⟨v + 1, D0, K0, by go_num, by omega, HLN, HKO, HB, HK, hE, hs⟩
            case measure => simp [intOf]; omega
        · obtain rfl : v = zs.length := by omega
          have hyes : r = true := HRY.out (KO.done HL.out HKO.out)
          have D3 := HD0.out.trans (hE.mono (by omega))
          have HYY := Lib.hid hyes
          clear hyes
          go_wp2
          go_ret2
          exact ⟨⟨_, by rw [HYY.out]; rfl⟩, D3⟩
end Go.Proofs.YtbpcdgfcdahnlaaDoor
