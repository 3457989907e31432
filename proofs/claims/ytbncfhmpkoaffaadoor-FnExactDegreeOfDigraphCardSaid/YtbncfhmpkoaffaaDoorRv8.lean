/-
  A digraph turned: plain facts, spec.l08Has, spec.l08Reverse.
-/
import Derived.Test.YtbncfhmpkoaffaaDoorCr8
import Derived.Test.YtbncfhmpkoaffaaDoorIsB
import Derived.Test.YtbncfhmpkoaffaaDoorDh8
import Derived.BigRegion
import Derived.Deep.DeepCutAuto
namespace Go.Proofs.YtbncfhmpkoaffaaDoor
set_option maxRecDepth 100000
set_option maxRecDepth 100000
open Go.RowKit

structure DgOk (n : Int) (zs : List Int) : Prop where
  size : (zs.length : Int) = n
  pos : 1 ≤ zs.length
  le : zs.length ≤ 62
  ge : ∀ i, 0 ≤ el zs i
  lt : ∀ i, nat zs i < 2 ^ zs.length
theorem dg_ok {n : Int} {zs : List Int} (h : isD n zs = true) : DgOk n zs := by
  obtain ⟨h1, h2, h3, h4⟩ := isD_parts h
  have h0 : ∀ i, 0 ≤ el zs i ∧ nat zs i < 2 ^ n.toNat := fun i => by
    by_cases hi : i < zs.length
    · obtain ⟨a, b⟩ := drTo_at h4 hi
      refine ⟨a, ?_⟩
      unfold nat
      have e : ((2 : Int) ^ n.toNat) = ((2 ^ n.toNat : Nat) : Int) := by simp
      rw [e] at b
      have := Nat.two_pow_pos n.toNat
      omega
    · rw [nat, el_ge (by omega)]
      exact ⟨by omega, Nat.two_pow_pos _⟩
  have e : n.toNat = zs.length := by omega
  exact ⟨h3, by omega, by omega, fun i => (h0 i).1, fun i => by rw [← e]; exact (h0 i).2⟩
theorem nat_out {zs : List Int} {i : Nat} (hi : zs.length ≤ i) : nat zs i = 0 := by rw [nat, el_ge hi]; rfl
theorem DgOk.nat {n : Int} {zs : List Int} (h : DgOk n zs) (i : Nat) : el zs i = ((Go.Proofs.YtbncfhmpkoaffaaDoor.nat zs i : Nat) : Int) := by have := h.ge i; unfold Go.Proofs.YtbncfhmpkoaffaaDoor.nat; omega
theorem DgOk.lt62 {n : Int} {zs : List Int} (h : DgOk n zs) (i : Nat) : Go.Proofs.YtbncfhmpkoaffaaDoor.nat zs i < 4611686018427387904 :=
  Nat.lt_of_lt_of_le (h.lt i) (Nat.pow_le_pow_right (n := 2) (by decide) h.le)
theorem DgOk.big {n : Int} {zs : List Int} (h : DgOk n zs) (i : Nat) : el zs i ≤ 9223372036854775807 := by have := h.lt62 i; rw [h.nat i]; omega

theorem tcol_more {f : Nat → Nat} {m : Nat} (hf : ∀ i, m ≤ i → f i = 0) (j k : Nat) : tcol f (m + k) j = tcol f m j := by
  induction k with
  | zero => rfl
  | succ k ih => rw [← Nat.add_assoc, tcol, hf (m + k) (by omega)]; simpa using ih
/-- The rows while row v is turned, up to column j. -/
def rvM (zs : List Int) (v j : Nat) : List Int := (List.range zs.length).map fun i => ((tcol (nat zs) (if i < j then v + 1 else v) i : Nat) : Int)
/-- The rows turned. -/
def rvL (zs : List Int) : List Int := (List.range zs.length).map fun i => ((tcol (nat zs) zs.length i : Nat) : Int)
theorem rvM_length (zs : List Int) (v j : Nat) : (rvM zs v j).length = zs.length := by simp [rvM]
theorem rvL_length (zs : List Int) : (rvL zs).length = zs.length := by simp [rvL]
theorem el_rvM (zs : List Int) (v j i : Nat) (h : i < zs.length) : el (rvM zs v j) i = ((tcol (nat zs) (if i < j then v + 1 else v) i : Nat) : Int) := by simp [el, rvM, h]
theorem el_rvL (zs : List Int) (i : Nat) (h : i < zs.length) : el (rvL zs) i = ((tcol (nat zs) zs.length i : Nat) : Int) := by simp [el, rvL, h]
theorem rvM_zero (zs : List Int) : rvM zs 0 0 = List.replicate zs.length 0 := by
  unfold rvM
  rw [List.eq_replicate_iff]
  refine ⟨by simp, fun x hx => ?_⟩
  obtain ⟨i, _, rfl⟩ := List.mem_map.1 hx
  simp [tcol]
theorem rvM_row (zs : List Int) (v : Nat) : rvM zs v zs.length = rvM zs (v + 1) 0 := by
  unfold rvM
  refine List.map_congr_left fun i hi => ?_
  rw [if_pos (List.mem_range.1 hi), if_neg (Nat.not_lt_zero i)]
theorem rvM_all (zs : List Int) : rvM zs zs.length 0 = rvL zs := by
  unfold rvM rvL
  refine List.map_congr_left fun i _ => ?_
  rw [if_neg (Nat.not_lt_zero i)]
theorem rvM_no {zs : List Int} {v j : Nat} (h : (nat zs v).testBit j = false) : rvM zs v (j + 1) = rvM zs v j := by
  unfold rvM
  refine List.map_congr_left fun i _ => ?_
  by_cases e : i = j
  · subst e
    rw [if_pos (by omega), if_neg (by omega), tcol, h]; rfl
  · by_cases e2 : i < j
    · rw [if_pos (by omega), if_pos e2]
    · rw [if_neg (by omega), if_neg e2]
theorem rvM_yes {zs : List Int} {v j : Nat} (h : (nat zs v).testBit j = true) : (rvM zs v j).set j ((tcol (nat zs) v j ||| 2 ^ v : Nat) : Int) = rvM zs v (j + 1) := by
  apply List.ext_getElem
  · rw [List.length_set, rvM_length, rvM_length]
  · intro i h1 h2
    rw [List.getElem_set]
    simp only [rvM, List.getElem_map, List.getElem_range]
    by_cases e : j = i
    · subst e
      rw [if_pos rfl, if_pos (Nat.lt_succ_self _), tcol, h, if_pos rfl]
    · rw [if_neg e]
      by_cases e2 : i < j
      · rw [if_pos e2, if_pos (by omega)]
      · rw [if_neg e2, if_neg (by omega)]
theorem rvL_lt {zs : List Int} (i : Nat) (hi : i < zs.length) : 0 ≤ el (rvL zs) i ∧ (el (rvL zs) i).toNat < 2 ^ zs.length := by
  rw [el_rvL zs i hi]
  exact ⟨by omega, by rw [Int.toNat_natCast]; exact tcol_lt _ _ _⟩

set_option maxHeartbeats 400000 in
theorem hasD_any (n : Int) (b off len cap : Nat) (z : Int) (a c : Int) (w : World) (hb : b < w.heap.size) (hc : w.cell? ⟨b, off + a.toNat, none⟩ = some (.int .i64 z)) (ha0 : 0 ≤ a) (ha : a < len) (hc0 : 0 ≤ c) (hc1 : c < 62) (hz0 : 0 ≤ z) (hz1 : z ≤ 9223372036854775807) (r : Bool) (hr : bt z c.toNat = r) :
    Calls Tryd.prog 61 #[.agg #[.int .i64 n, .slice (some ⟨b, off, none⟩) len cap], .int .i64 a, .int .i64 c] w fun e w' => e = .returned (.bool r) ∧ Below w.heap.size w w' := by
  have HS : Hid ((bits .and .i64 (z / 2 ^ c.toNat) 1 == 1) = r) := (shr_bit z c.toNat hz0 hz1).trans hr
  clear hr
  go_enter Tryd.func61, Tryd.ntmps61
  go_wp2
  go_ret
  exact ⟨ret_bool HS.out, (Below.refl _ _).alloc (Nat.le_refl _) _⟩
theorem hasD_rows {n : Int} {b off cap : Nat} {zs : List Int} (hg : DgOk n zs) (v x : Nat) (w : World) (hb : b < w.heap.size) (hc : Cells w b off zs) (hv : v < zs.length) (hx : x < 62) (r : Bool) (hr : (nat zs v).testBit x = r) :
    Calls Tryd.prog 61 #[.agg #[.int .i64 n, .slice (some ⟨b, off, none⟩) zs.length cap], .int .i64 v, .int .i64 x] w fun e w' => e = .returned (.bool r) ∧ Below w.heap.size w w' :=
  hasD_any n b off zs.length cap (el zs v) v x w hb (by rw [Int.toNat_natCast]; exact hc v hv) (by omega) (by omega) (by omega) (by omega) (hg.ge v) (hg.big v) r (by rw [Int.toNat_natCast]; exact hr)

/-- What the making of the turned digraph leaves: its box and its rows. -/
def RvB (Wz : World) (m : Nat) (t : Value) (wx : World) : Prop := ∃ gb gr, t = .pointer (some ⟨gb, 0, none⟩) ∧ wx.heap[gb]? = some (.cells #[.int .i64 (m : Int), .slice (some ⟨gr, 0, none⟩) m m] 29 (0, 0)) ∧ Blk wx gr (List.replicate m 0) ∧ gb ≠ gr ∧ Wz.heap.size ≤ gb ∧ Wz.heap.size ≤ gr ∧ Below Wz.heap.size Wz wx

set_option maxHeartbeats 3200000 in
theorem l08Rev_some (n : Int) (b off cap : Nat) (zs : List Int) (w : World) (hb : b < w.heap.size) (hc : Cells w b off zs) (hg : DgOk n zs) :
    Calls Tryd.prog 51 #[.agg #[.int .i64 n, .slice (some ⟨b, off, none⟩) zs.length cap]] w fun e w' => (∃ u, e = .returned (.agg #[.int .i64 n, u]) ∧ Own w' w.heap.size u (rvL zs)) ∧ Below w.heap.size w w' := by
  obtain ⟨Wz, hWz⟩ : ∃ W, W = (w.alloc (.cells #[.int .i64 n, .slice (some ⟨b, off, none⟩) zs.length cap] 29)).alloc (.cells #[.int .i64 0, .slice none 0 0] 29) := ⟨_, rfl⟩
  have D0 : Below w.heap.size w Wz := by rw [hWz]; exact ((Below.refl _ _).alloc (Nat.le_refl _) _).alloc (by simp) _
  have hsz : Wz.heap.size = w.heap.size + 2 := by rw [hWz]; simp
  have HG0 : Hid (GBox Wz w.heap.size n b off cap zs) := by
    show GBox _ _ _ _ _ _ _
    rw [hWz]
    exact (GBox.newD (n := n) (cap := cap) hb hc).below ((Below.refl _ _).alloc (by simp) _)
  have HR0 : Hid (Wz.heap[w.heap.size + 1]? = some (.cells #[.int .i64 0, .slice none 0 0] 29 (0, 0))) := by
    show _ = _; rw [hWz]; exact heap_new_at _ _ _ (by simp)
  have hmk := run_mkInts zs.length (by have := hg.le; omega)
  have b0 := HG0.out.b0
  have hn := hg.size
  have HD := Lib.hid D0
  have HS := Lib.hid hsz
  have HG := Lib.hid hg
  have hl62 := hg.le
  obtain rfl : n = (zs.length : Int) := hn.symm
  clear hc D0 hg hn
  go_enter Tryd.func51, Tryd.ntmps51
  go_upto_region 1 with fail
  rw [← hWz]
  clear hWz
  go_cut [3] (fun t wx => RvB Wz zs.length t wx)
  case first =>
    have p1 : w.heap.size < Wz.heap.size := by omega
    have p2 : ¬ w.heap.size = Wz.heap.size := by omega
    have p3 : ¬ Wz.heap.size = w.heap.size := by omega
    clear hsz
    go_region
    all_goals
      go_wp2_with fail
      go_meet
    · exact ⟨_, _, rfl, heap_new_at (Wz.alloc (.cells (intsA (List.replicate zs.length 0)) 2)) _ (Wz.heap.size + 1) (by simp), (Blk.new Wz _).alloc _, by omega, by omega, Nat.le_refl _, (((Below.refl _ _).alloc (Nat.le_refl _) _).alloc (by simp) _).drew⟩
    · exact ⟨_, _, rfl, (Below.heap_alloc _ _ _ (by simp)).trans (World.alloc_heap_new _ _), (by have h := Blk.new (Wz.alloc (.cells #[.int .i64 (zs.length : Int), .slice (some ⟨Wz.heap.size + 1, 0, none⟩) zs.length zs.length] 29)) (List.replicate zs.length 0); rw [World.size_alloc] at h; exact h), by omega, Nat.le_refl _, by omega, (((Below.refl _ _).alloc (Nat.le_refl _) _).alloc (by simp) _).drew⟩
  case rest =>
    obtain ⟨gb, gr, rfl, hX, hB, hne, hgb, hgr, hb0⟩ := hcut
    rename_i hK0
    refine hK0 _ _ ?_
    have HX := Lib.hid hX
    have HB : Hid (Blk wc gr (rvM zs 0 0)) := by show Blk _ _ _; rw [rvM_zero]; exact hB
    clear hX hB b0 hmk
    go_wp2_with fail
    go_loopw [4, 5] (fun t _ wr => ∃ v : Nat, v ≤ zs.length ∧ t = .int .i64 v ∧ Hid (Blk wr gr (rvM zs v 0)) ∧ Hid (wr.heap[gb]? = wc.heap[gb]?) ∧ Below Wz.heap.size Wz wr ∧ wc.heap.size ≤ wr.heap.size) (fun t _ _ => zs.length - (intOf t).toNat)
    case atStart => exact ⟨0, Nat.zero_le _, rfl, HB, rfl, hb0, Nat.le_refl _⟩
    case round =>
      clear HB
      obtain ⟨v, hv, rfl, HB, HK, hE, hs⟩ := hrel
      have G0 := HG0.out.below (hE.mono (by omega))
      have b0 := G0.b0
      by_cases hlt : v < zs.length
      · have hlti : (v : Int) < zs.length := by omega
        obtain ⟨wo, rfl⟩ : ∃ wo : World, wo = wr := ⟨_, rfl⟩
        go_wp2_with fail
        clear b0
        go_loopw [5] (fun t wr => ∃ j : Nat, j ≤ zs.length ∧ t = .int .i64 j ∧ Hid (Blk wr gr (rvM zs v j)) ∧ Hid (wr.heap[gb]? = wc.heap[gb]?) ∧ Below Wz.heap.size Wz wr ∧ wc.heap.size ≤ wr.heap.size) (fun t _ => zs.length - (intOf t).toNat)
        case atStart => exact ⟨0, Nat.zero_le _, rfl, HB, HK, hE, hs⟩
        case round =>
          clear HB HK hE hs G0
          obtain ⟨j, hj, rfl, HB, HK, hE, hs⟩ := hrel
          have G0 := HG0.out.below (hE.mono (by omega))
          have b0 := G0.b0
          have b1 := G0.b1
          have hv0 : (0 : Int) ≤ v := by omega
          by_cases hltj : j < zs.length
          · have hltji : (j : Int) < zs.length := by omega
            have hj0 : (0 : Int) ≤ j := by omega
            cases hr : (nat zs v).testBit j with
            | false =>
              have hcall := hasD_rows HG.out v j (cap := cap) wr G0.lb G0.cells hlt (by omega) false hr
              have HN : Hid (rvM zs v (j + 1) = rvM zs v j) := rvM_no hr
              have HE := Lib.hid hE
              have HG2 := Lib.hid G0
              clear hr hE
              go_wp2_with (go_at_call 61; refine hcall.mono ?_; rintro e w2 ⟨rfl, hb2⟩; have HB2 := Lib.hid (HB.out.belowAll hb2); have HK2 := Lib.hid ((hb2.block gb (by have := (Array.getElem?_eq_some_iff.1 (HK.out.trans HX.out)).1; omega)).trans HK.out); have HE2 := Lib.hid (HE.out.trans (hb2.mono HE.out.size)); have hs2 := hb2.size; clear hb2)
              go_roundw
              case rel => exact ⟨j + 1, by omega, by go_num, by rw [HN.out]; exact HB2, HK2, HE2.out, by omega⟩
              case measure => simp [intOf]; omega
            | true =>
              have hcall := hasD_rows HG.out v j (cap := cap) wr G0.lb G0.cells hlt (by omega) true hr
              have HN : Hid ((rvM zs v j).set j ((tcol (nat zs) v j ||| 2 ^ v : Nat) : Int) = rvM zs v (j + 1)) := rvM_yes hr
              have HEL : Hid (el (rvM zs v j) j = ((tcol (nat zs) v j : Nat) : Int)) := by show _ = _; rw [el_rvM zs v j j hltj, if_neg (Nat.lt_irrefl j)]
              have htl := tcol_lt (nat zs) j v
              have HE := Lib.hid hE
              have HG2 := Lib.hid G0
              have HLR := Lib.hid (rvM_length zs v j)
              obtain ⟨T, hT⟩ : ∃ T, T = tcol (nat zs) v j := ⟨_, rfl⟩
              rw [← hT] at HN HEL htl
              have HTL := Lib.hid htl
              clear hr hE hT htl
              go_wp2_with (go_at_call 61; refine hcall.mono ?_; rintro e w2 ⟨rfl, hb2⟩; have HB2 := Lib.hid (HB.out.belowAll hb2); have HK2 := Lib.hid ((hb2.block gb (by have := (Array.getElem?_eq_some_iff.1 (HK.out.trans HX.out)).1; omega)).trans HK.out); have HE2 := Lib.hid (HE.out.trans (hb2.mono HE.out.size)); have hs2 := hb2.size; clear hb2; obtain ⟨x0, x1, -, -⟩ := two_cells (HK2.out.trans HX.out); have c1 : w2.cell? ⟨gr, j, none⟩ = some (.int .i64 (T : Int)) := (by rw [← HEL.out]; exact HB2.out.cell (by rw [HLR.out]; exact hltj)); have f1 : w2.frozen? ⟨gr, j, none⟩ = false := HB2.out.frozen j)
              have qa := pow_bounds v (by omega)
              have P1 : Hid (bits .or .i64 (T : Int) (2 ^ v) = ((T ||| 2 ^ v : Nat) : Int)) := by
                show _ = _
                have h1 : T < 2 ^ 62 := Nat.lt_of_lt_of_le HTL.out (Nat.pow_le_pow_right (by decide) (by omega))
                have h2 : 2 ^ v < 2 ^ 63 := Nat.pow_lt_pow_right (by decide) (by omega)
                rw [show ((2 : Int) ^ v) = ((2 ^ v : Nat) : Int) by simp, or_i64 _ _ (by omega) h2]
              go_region
              rw [P1.out]
              have HB3 : Hid (Blk (w2.setCell ⟨gr, j, none⟩ (.int .i64 ((T ||| 2 ^ v : Nat) : Int))) gr (rvM zs v (j + 1))) := by show Blk _ _ _; rw [← HN.out]; exact HB2.out.set j _
              have HK3 : Hid ((w2.setCell ⟨gr, j, none⟩ (.int .i64 ((T ||| 2 ^ v : Nat) : Int))).heap[gb]? = wc.heap[gb]?) := (Below.heap_setCell w2 ⟨gr, j, none⟩ _ gb (by simpa using hne)).trans HK2.out
              have HE3 := HE2.out.setCell (p := ⟨gr, j, none⟩) hgr (.int .i64 ((T ||| 2 ^ v : Nat) : Int))
              clear qa c1 f1 x0 x1
              go_wp2_with fail
              go_roundw
              case rel => exact ⟨j + 1, by omega, by go_num, HB3, HK3, HE3.drew, by simp; omega⟩
              case measure => simp [intOf]; omega
          · obtain rfl : j = zs.length := by omega
            have HB2 : Hid (Blk wr gr (rvM zs (v + 1) 0)) := by rw [← rvM_row]; exact HB
            have HE := Lib.hid hE
            go_wp2_with fail
            go_roundw
            case rel => exact ⟨v + 1, by omega, by go_num, HB2, HK, HE.out, hs⟩
            case measure => simp [intOf]; omega
      · obtain rfl : v = zs.length := by omega
        have hlti : ¬ (zs.length : Int) < zs.length := by omega
        have HK2 := HK.out.trans HX.out
        obtain ⟨x0, x1, -, -⟩ := two_cells HK2
        have HR1 : Hid (wr.heap[w.heap.size + 1]? = some (.cells #[.int .i64 0, .slice none 0 0] 29 (0, 0))) := (hE.block _ (by omega)).trans HR0.out
        obtain ⟨y0, y1, g0, g1⟩ := two_cells HR1.out
        have HE := Lib.hid hE
        clear hE HK HK2
        go_wp2_with fail
        have hfin := two_set (a := .int .i64 (zs.length : Int)) (b := .slice (some ⟨gr, 0, none⟩) zs.length zs.length) HR1.out
        have hfb : Blk ((wr.setCell ⟨w.heap.size + 1, 0, none⟩ (.int .i64 (zs.length : Int))).setCell ⟨w.heap.size + 1, 1, none⟩ (.slice (some ⟨gr, 0, none⟩) zs.length zs.length)) gr (rvL zs) := by
          rw [← rvM_all]
          exact (HB.out.other (by simp; omega) _).other (by simp; omega) _
        refine bodyPost_ret (v := .agg #[.int .i64 (zs.length : Int), .slice (some ⟨gr, 0, none⟩) zs.length zs.length]) (results_cell_row (p := 2) (ty := 29) rfl _ _ (w.heap.size + 1) 29 _ (0, 0) _ rfl hfin Tryd.underlying29 rfl (by exact infoDg)) rfl ⟨⟨_, rfl, ?_⟩, ?_⟩
        · have h := Own.of_blk (B := w.heap.size) hfb (by omega) (by rw [rvL_length]; unfold maxLen; omega)
          rw [rvL_length] at h
          exact h
        · exact ((HD.out.trans (HE.out.mono HD.out.size)).setCell (p := ⟨w.heap.size + 1, 0, none⟩) (by simp) _).setCell (p := ⟨w.heap.size + 1, 1, none⟩) (by simp) _
end Go.Proofs.YtbncfhmpkoaffaaDoor
