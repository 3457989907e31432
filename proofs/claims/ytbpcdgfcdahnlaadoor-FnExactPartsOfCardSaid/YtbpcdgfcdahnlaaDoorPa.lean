/-
  Parts in lists: plain facts, and spec.PartsOf. (A tied seat of graphs.)
-/
import Derived.Test.YtbpcdgfcdahnlaaDoorLwF
import Derived.Test.YtbpcdgfcdahnlaaDoorPq
import Derived.Test.YtbpcdgfcdahnlaaDoorTt
namespace Go.Proofs.YtbpcdgfcdahnlaaDoor
set_option maxRecDepth 100000
set_option maxRecDepth 100000
open Go.RowKit

/-- The vertices ahead of w in the part of v. -/
def ptU (zs : List Int) (v w : Nat) : List Nat := (List.range w).filter fun y => decide (rch zs v y)
theorem ptU_yes {zs : List Int} {v w : Nat} (h : rch zs v w) : ptU zs v (w + 1) = ptU zs v w ++ [w] := by simp [ptU, List.range_succ, h]
theorem ptU_no {zs : List Int} {v w : Nat} (h : ¬ rch zs v w) : ptU zs v (w + 1) = ptU zs v w := by simp [ptU, List.range_succ, h]
/-- The lists of the parts whose least vertex lies ahead of v. -/
def PtU (zs : List Int) (v : Nat) : List (List Int) := (prN zs v).map fun u => nI (ptN zs u)
def PtL (zs : List Int) : List (List Int) := PtU zs zs.length
theorem PtU_length (zs : List Int) (v : Nat) : (PtU zs v).length = (prN zs v).length := by simp [PtU]
theorem PtU_yes {zs : List Int} {v : Nat} (h : leadB zs v = true) : PtU zs (v + 1) = PtU zs v ++ [nI (ptN zs v)] := by simp [PtU, prN_yes h]
theorem PtU_no {zs : List Int} {v : Nat} (h : leadB zs v = false) : PtU zs (v + 1) = PtU zs v := by simp [PtU, prN_no h]
section
variable {zs D : List Int} {v w : Nat} (h : LdF zs D zs.length)
include h
theorem lead_iff (hv : v < zs.length) : leadB zs v = decide (el D v = (v : Int)) := by
  obtain ⟨u, hu, hl⟩ := ldB_ex hv
  have e := h.met v u hv (by omega) hl
  rw [Bool.eq_iff_iff, leadB_iff, decide_eq_true_iff, e]
  constructor
  · intro hn
    have : ¬ u < v := fun hlt => hn u hlt hl.1
    omega
  · intro e2 y hy
    exact hl.2 y (by omega)
theorem part_iff (hv : v < zs.length) (hl : leadB zs v = true) (hw : w < zs.length) : rch zs v w ↔ el D w = (v : Int) := by
  have hn := leadB_iff.1 hl
  constructor
  · intro hr
    exact h.met w v hw hv ⟨hr, fun y hy hy2 => hn y hy (rch_trans (by omega) hy2 (rch_symm h.sym hv hr))⟩
  · intro e
    obtain ⟨u, hu, hl2⟩ := ldB_ex hw
    have := h.met w u hw (by omega) hl2
    have : u = v := by omega
    rw [← this]; exact hl2.1
theorem ptU_start (hv : v < zs.length) (hl : leadB zs v = true) : ptU zs v v = [] := by
  unfold ptU
  rw [List.filter_eq_nil_iff]
  intro y hy hr
  have hyv := List.mem_range.1 hy
  have hr2 : rch zs v y := by simpa using hr
  exact leadB_iff.1 hl y hyv (rch_symm h.sym hv hr2)
end
def PaL (n : Int) (zs : List Int) : List (List Int) := if isG n zs then PtL zs else []
def PaC (n : Int) (zs : List Int) : Int := if isG n zs then 0 else 1
def SRes (B : Nat) (Ts : List (List Int)) (c : Int) (e : Ending) (w' : World) : Prop := ∃ u, e = .returned (.tuple #[u, .int .i64 c]) ∧ TS w' B u Ts

set_option maxHeartbeats 3200000 in
theorem specPa_yes (b off cap : Nat) (zs : List Int) (w : World) (hb : b < w.heap.size) (hc : Cells w b off zs) (hg : isG zs.length zs = true) :
    Calls Tryd.prog 26 #[.agg #[.int .i64 zs.length, .slice (some ⟨b, off, none⟩) zs.length cap]] w fun e w' => SRes w.heap.size (PtL zs) 0 e w' ∧ Below w.heap.size w w' := by
  obtain ⟨p1, p2, -, -, -⟩ := isG_parts hg
  have hm62 : zs.length ≤ 62 := by omega
  have D0 : Below w.heap.size w (w.alloc (.cells #[.int .i64 zs.length, .slice (some ⟨b, off, none⟩) zs.length cap] 28)) := (Below.refl _ _).alloc (Nat.le_refl _) _
  have his := l01Is_some zs.length b off cap zs (w.alloc (.cells #[.int .i64 zs.length, .slice (some ⟨b, off, none⟩) zs.length cap] 28)) (Nat.lt_of_lt_of_le hb D0.size) (hc.below D0 hb) (by omega)
  rw [hg] at his
  have HG0 := Lib.hid (GBox.new (n := zs.length) (cap := cap) hb hc)
  have HG := Lib.hid hg
  obtain ⟨i0, hi, hz0, hz1, hz2⟩ := info_parts mk_info
  have HI := Lib.hid hi; have HI0 := Lib.hid hz0; have HI1 := Lib.hid hz1; have HI2 := Lib.hid hz2
  obtain ⟨j0, hj, hy0, hy1, hy2⟩ := info_parts mkS_info
  have HJ := Lib.hid hj; have HJ0 := Lib.hid hy0; have HJ1 := Lib.hid hy1; have HJ2 := Lib.hid hy2
  clear hc hg hi hz0 hz1 hz2 hj hy0 hy1 hy2
  go_enter Tryd.func26, Tryd.ntmps26
  go_wp2_with (go_at_call 52; refine his.mono ?_; rintro e w1 ⟨rfl, hb1⟩; have G1 := Lib.hid (HG0.out.below (hb1.mono (by simp))); have b0 := G1.out.b0; have b1 := G1.out.b1)
  have D1 : Below w.heap.size w w1 := D0.trans (hb1.mono (by simp))
  have s1 : w.heap.size + 1 ≤ w1.heap.size := by have := hb1.size; simpa using this
  have hld := leadersF_some b off cap zs w1 G1.out.lb G1.out.cells HG.out
  clear hb1 his
  refine hld.mono ?_
  rintro e w2 ⟨u, D, rfl, hO, hL, hb2⟩
  obtain ⟨gd, cd, rfl, hgd0, hgd1⟩ : ∃ gd cd, u = .slice (some ⟨gd, 0, none⟩) zs.length cd ∧ w1.heap.size ≤ gd ∧ gd < w2.heap.size := by
    rcases hO.form with ⟨_, h0⟩ | ⟨gd, cd, h1, h2, h3⟩
    · have := hL.len; rw [h0] at this; simp at this; omega
    · rw [hL.len] at h1; exact ⟨gd, cd, h1, h2, h3⟩
  have HL := Lib.hid hL
  have HO := Lib.hid hO
  have D2 : Below w.heap.size w w2 := D1.trans (hb2.mono (by omega))
  have G2 := Lib.hid (G1.out.below (hb2.mono s1))
  have s2 := hb2.size
  have HCD : Hid (∀ k, k < zs.length → w2.cell? ⟨gd, k, none⟩ = some (.int .i64 (el D k))) := fun k hk => by
    have h := hO
    unfold Own at h; rw [hL.len] at h
    exact (World.ownsRow.cellAt h k (by omega)).trans (map_at _ k (by rw [hL.len]; omega))
  have b0 := G2.out.b0; have b1 := G2.out.b1
  clear hO hL hld hb2 HO
  obtain ⟨Wz, hWz⟩ : ∃ Wz, Wz = w2.alloc (.cells #[] 22) := ⟨_, rfl⟩
  have HT0 : Hid (TS Wz w2.heap.size (.slice (some ⟨w2.heap.size, 0, none⟩) 0 0) (PtU zs 0)) := by
    have := World.ownsRow_made w2 #[] 0 (base := w2.heap.size) (e := 22) (size := 1) (by simp) (by decide) rfl
    rw [← hWz] at this
    exact ⟨[], this, rfl, fun i h => by simp [PtU, prN] at h⟩
  have hbz : Below w2.heap.size w2 Wz := by rw [hWz]; exact (Below.refl _ _).alloc (Nat.le_refl _) _
  go_wp2_with fail
  rw [← hWz]
  clear hWz b0 b1
  go_loopw [5, 6] (fun u i wr => ∃ v : Nat, v ≤ zs.length ∧ i = .int .i64 v ∧ Hid (TS wr w2.heap.size u (PtU zs v)) ∧ Below w2.heap.size w2 wr) (fun _ i _ => zs.length - (intOf i).toNat)
  case atStart => exact ⟨0, Nat.zero_le _, rfl, HT0, hbz⟩
  case round =>
    clear HT0 hbz
    obtain ⟨v, hv, rfl, HT, hE⟩ := hrel
    have s3 := hE.size
    have b0 := (G2.out.below (hE.mono (by omega))).b0
    have b1 := (G2.out.below (hE.mono (by omega))).b1
    by_cases hlt : (v : Int) < zs.length
    · have hvl : v < zs.length := by omega
      have hv0 : (0 : Int) ≤ v := by omega
      obtain ⟨d, hd⟩ : ∃ d, d = el D v := ⟨_, rfl⟩
      have hcell : wr.cell? ⟨gd, v, none⟩ = some (.int .i64 d) := by rw [hd]; exact (hE.cell (p := ⟨gd, v, none⟩) hgd1).trans (HCD.out v hvl)
      have hld := lead_iff HL.out hvl
      rw [← hd] at hld
      by_cases he : d = (v : Int)
      · have t1 : (d != (v : Int)) = false := by rw [bne_eq_false_iff_eq]; exact he
        rw [decide_eq_true he] at hld
        have HLD := Lib.hid hld
        have HNX := Lib.hid (PtU_yes hld)
        have HU0 := Lib.hid (ptU_start HL.out hvl hld)
        clear he hd hld
        go_wp2_with fail
        obtain ⟨Wy, hWy⟩ : ∃ Wy, Wy = wr.alloc (.cells #[] 2) := ⟨_, rfl⟩
        have HO0 : Hid (Own Wy wr.heap.size (.slice (some ⟨wr.heap.size, 0, none⟩) 0 0) (nI (ptU zs v v))) := by
          have := World.ownsRow_made wr #[] 0 (base := wr.heap.size) (e := 2) (size := 1) (by simp) (by decide) rfl
          rw [← hWy] at this
          show Own _ _ _ _
          rw [HU0.out]
          exact this
        have hby : Below wr.heap.size wr Wy := by rw [hWy]; exact (Below.refl _ _).alloc (Nat.le_refl _) _
        rw [← hWy]
        clear hWy b0 b1 hcell
        obtain ⟨wo, rfl⟩ : ∃ wo : World, wo = wr := ⟨_, rfl⟩
        go_loopw [7, 8] (fun u i wr => ∃ y : Nat, v ≤ y ∧ y ≤ zs.length ∧ i = .int .i64 y ∧ Hid (Own wr wo.heap.size u (nI (ptU zs v y))) ∧ Below wo.heap.size wo wr) (fun _ i _ => zs.length - (intOf i).toNat)
        case atStart => exact ⟨v, Nat.le_refl _, by omega, rfl, HO0, hby⟩
        case round =>
          clear HO0 hby
          obtain ⟨y, hvy, hy, rfl, HO, hF⟩ := hrel
          have hEF := hE.trans (hF.mono s3)
          have b0 := (G2.out.below (hEF.mono (by omega))).b0
          have b1 := (G2.out.below (hEF.mono (by omega))).b1
          have s4 := hF.size
          by_cases hly : (y : Int) < zs.length
          · have hyl : y < zs.length := by omega
            have hy0 : (0 : Int) ≤ y := by omega
            obtain ⟨d, hd⟩ : ∃ d, d = el D y := ⟨_, rfl⟩
            have hcell : wr.cell? ⟨gd, y, none⟩ = some (.int .i64 d) := by rw [hd]; exact (hEF.cell (p := ⟨gd, y, none⟩) hgd1).trans (HCD.out y hyl)
            have hpi := part_iff HL.out hvl HLD.out hyl
            rw [← hd] at hpi
            by_cases he : d = (v : Int)
            · have t1 : (d == (v : Int)) = true := by rw [beq_iff_eq]; exact he
              have HUN := Lib.hid (ptU_yes (hpi.2 he))
              have hlen : (nI (ptU zs v y)).length ≤ zs.length := by
                rw [nI_length]
                have h1 : (ptU zs v y).length ≤ y := by unfold ptU; exact Nat.le_trans (List.length_filter_le _ _) (by simp)
                omega
              clear he hd hpi
              have HO2 := Lib.hid HO.out
              have hFb := hF.alloc (by omega) (.cells #[.int .i64 y] 2)
              go_wp2_with (at_builtin; refine wpList_append_own _ rfl _ _ 22 rfl wo.heap.size 2 i0 (.int .i64 0) 1 8 Tryd.underlying22 HI.out HI0.out HI1.out HI2.out rfl (by decide) _ _ _ rfl (World.ownsRow.alloc HO2.out _) ⟨wr.heap.size, 0, none⟩ 1 1 [.int .i64 y] rfl rfl (cell_one_new _ _ _) (by simp [Value.oneCell']) (by unfold maxLen; omega) (by omega) (by simp; omega) ?_; intro u' w3 hown3 hgr3 _)
              have E3 := hFb.grown hgr3 (by simp; omega) (fun k e => (World.ownsRow.lt HO2.out k e).1)
              have HN : Hid (Own w3 wo.heap.size u' (nI (ptU zs v (y + 1)))) := by
                show World.ownsRow _ _ _ _ _ _ _
                rw [HUN.out, nI_append, List.map_append, List.length_append]
                exact hown3
              clear hown3 hgr3 HO2 HO hFb hF hEF b0 b1 hcell
              go_wp2
              go_roundw
              case rel => exact ⟨y + 1, by omega, by omega, by go_num, HN, E3⟩
              case measure => simp [intOf]; omega
            · have t1 : (d == (v : Int)) = false := by rw [beq_eq_false_iff_ne]; exact he
              have HN : Hid (Own wr wo.heap.size u7 (nI (ptU zs v (y + 1)))) := by show Own _ _ _ _; rw [ptU_no (fun hr => he (hpi.1 hr))]; exact HO.out
              clear he hd hpi
              go_wp2
              go_roundw
              case rel => exact ⟨y + 1, by omega, by omega, by go_num, HN, hF⟩
              case measure => simp [intOf]; omega
          · obtain rfl : y = zs.length := by omega
            have hvin : v ∈ ptU zs v zs.length := by unfold ptU; rw [List.mem_filter]; exact ⟨List.mem_range.2 hvl, by simpa using rch_self hvl⟩
            have hne : nI (ptU zs v zs.length) ≠ [] := fun e => by
              have h1 := congrArg List.length e
              rw [nI_length] at h1
              rw [List.length_eq_zero_iff.1 h1] at hvin
              cases hvin
            obtain ⟨gp, cp, rfl, hgp0, hgp1⟩ : ∃ gp cp, u7 = .slice (some ⟨gp, 0, none⟩) (nI (ptU zs v zs.length)).length cp ∧ wo.heap.size ≤ gp ∧ gp < wr.heap.size := by
              rcases HO.out.form with ⟨_, h0⟩ | ⟨gp, cp, h1, h2, h3⟩
              · exact absurd h0 hne
              · exact ⟨gp, cp, h1, h2, h3⟩
            obtain ⟨L, hL⟩ : ∃ L, L = nI (ptU zs v zs.length) := ⟨_, rfl⟩
            rw [← hL] at hne HO ⊢
            have HNX2 : Hid (PtU zs (v + 1) = PtU zs v ++ [L]) := by show _ = _; rw [hL]; exact HNX.out
            obtain ⟨cs, hT⟩ := HT.out
            have HNE := Lib.hid hne
            have hpl : (PtU zs v).length ≤ 62 := by rw [PtU_length]; have := prN_length zs v; omega
            have HTA := Lib.hid ((hT.below hF).below ((Below.refl _ wr).alloc (Nat.le_refl _) (.cells #[.slice (some ⟨gp, 0, none⟩) L.length cp] 22)))
            have HTC := Lib.hid hT
            have HO2 := Lib.hid HO.out
            have hE2 := hEF.alloc (by omega) (.cells #[.slice (some ⟨gp, 0, none⟩) L.length cp] 22)
            clear hL hvin hne hT HT HO hE hF hEF
            go_wp2_with (at_builtin; refine wpList_append_own_at _ rfl (.tmp 45) (.tmp 47) 37 rfl w2.heap.size 22 j0 (.slice none 0 0) 1 24 Tryd.underlying37 HJ.out HJ0.out HJ1.out HJ2.out rfl (by decide) _ _ _ rfl HTA.out.1 ⟨wr.heap.size, 0, none⟩ 1 1 [.slice (some ⟨gp, 0, none⟩) L.length cp] rfl rfl (cell_one_new _ _ _) (by simp [Value.oneCell']) (by unfold maxLen; omega) (by omega) (by simp; omega) ?_; intro l3 w3 hown3 hgr3 _ hloc; have HO3 := Lib.hid hown3; have HG3 := Lib.hid hgr3; have HL3 := Lib.hid hloc; clear hown3 hgr3 hloc)
            have HS3 : Hid (TS w3 w2.heap.size l3 (PtU zs (v + 1))) := by
              show TS _ _ _ _
              rw [HNX2.out]
              have hO := (HO2.out.base (show w2.heap.size ≤ wo.heap.size by omega)).below ((Below.refl _ wr).alloc (Nat.le_refl _) (.cells #[.slice (some ⟨gp, 0, none⟩) L.length cp] 22))
              refine HTA.out.snoc hO ?_ (fun e => absurd e HNE.out) HO3.out HG3.out HL3.out
              refine .inr fun e => ?_
              have h1 : u5.ownBlock = some gp := e.symm
              have := (World.ownsRow.lt HTC.out.1 gp h1).2
              omega
            have hE5 : Below w2.heap.size w2 w3 := hE2.grown HG3.out (by simp; omega) (fun q e => (World.ownsRow.lt HTC.out.1 q e).1)
            clear HTA HTC HO2 HO3 HG3 HL3 hE2
            go_wp2_with fail
            go_roundw
            case rel => exact ⟨v + 1, by omega, by go_num, HS3, hE5⟩
            case measure => simp [intOf]; omega
      · have t1 : (d != (v : Int)) = true := by rw [bne_iff_ne]; exact he
        rw [decide_eq_false he] at hld
        have HN : Hid (TS wr w2.heap.size u5 (PtU zs (v + 1))) := by show TS _ _ _ _; rw [PtU_no hld]; exact HT.out
        clear he hd hld
        go_wp2
        go_roundw
        case rel => exact ⟨v + 1, by omega, by go_num, HN, hE⟩
        case measure => simp [intOf]; omega
    · obtain rfl : v = zs.length := by omega
      have D3 := D2.trans (hE.mono (by omega))
      have HTF := Lib.hid (HT.out.base (show w.heap.size ≤ w2.heap.size by omega))
      obtain ⟨a, c, l, rfl⟩ : ∃ a c l, u5 = .slice a l c := by
        rcases HT.out.form with ⟨h0, _⟩ | ⟨g, cap, h1, _⟩
        · exact ⟨_, _, _, h0⟩
        · exact ⟨_, _, _, h1⟩
      go_wp2
      go_ret2
      exact ⟨⟨_, rfl, HTF.out⟩, D3⟩
end Go.Proofs.YtbpcdgfcdahnlaaDoor
