/-
  spec.l02Reaches, spec.ReachesOf and impl.ReachesOf.
-/
import Derived.Test.YtlodaeoikkjbkaaDoorMgC
namespace Go.Proofs.YtlodaeoikkjbkaaDoor
set_option maxRecDepth 100000
open Go.RowKit

theorem lvL_pos {zs : List Int} {v : Nat} (hv : v < zs.length) : 0 < (lvL zs v).length := by
  have h := (lvF_ok (dsL zs v) zs.length).lt v hv
  have h0 : el (dsL zs v) v = 0 := by rw [dsL_at hv]; exact dOf_lev (R := Rw zs v 0) hv (d := 0) (by rw [lev_zero]; simp)
  rw [h0] at h
  show 0 < (lvF (dsL zs v) zs.length).length
  omega
/-- The reaches of the first k vertices. -/
def rcF (zs : List Int) (k : Nat) : List Int := (List.range k).map fun v => ((lvL zs v).length : Int) - 1
theorem rcF_length (zs : List Int) (k : Nat) : (rcF zs k).length = k := by simp [rcF]
theorem rcF_succ (zs : List Int) (k : Nat) : rcF zs (k + 1) = rcF zs k ++ [((lvL zs k).length : Int) - 1] := by simp [rcF, List.range_succ]
theorem rcF_at (zs : List Int) (k v : Nat) (h : v < k) : el (rcF zs k) v = ((lvL zs v).length : Int) - 1 := by unfold el rcF; simp [h]
def RcL (n : Int) (zs : List Int) : List Int := if isG n zs then rcF zs zs.length else []
theorem RcL_length (n : Int) (zs : List Int) : (RcL n zs).length ≤ zs.length := by unfold RcL; split <;> simp [rcF_length]

set_option maxRecDepth 100000 in
set_option maxHeartbeats 1600000 in
theorem l02Rc_some (n : Int) (b off cap : Nat) (zs : List Int) (w : World) (hb : b < w.heap.size) (hc : Cells w b off zs) (hg : isG n zs = true) :
    Calls Tryd.prog 76 #[.agg #[.int .i64 n, .slice (some ⟨b, off, none⟩) zs.length cap]] w fun e w' => ∃ u, e = .returned u ∧ Own w' w.heap.size u (rcF zs zs.length) ∧ Below w.heap.size w w' := by
  obtain ⟨p1, p2, h3, -, -⟩ := isG_parts hg
  have hm62 : zs.length ≤ 62 := by omega
  have D0 : Below w.heap.size w (w.alloc (.cells #[.int .i64 n, .slice (some ⟨b, off, none⟩) zs.length cap] 28)) := (Below.refl _ _).alloc (Nat.le_refl _) _
  have HG0 := Lib.hid (GBox.new (n := n) (cap := cap) hb hc)
  obtain ⟨i0, hi, hz0, hz1, hz2⟩ := info_parts mk_info
  have HI := Lib.hid hi; have HI0 := Lib.hid hz0; have HI1 := Lib.hid hz1; have HI2 := Lib.hid hz2
  have HG := Lib.hid hg; have H3 := Lib.hid h3
  clear hg hc hi hz0 hz1 hz2 h3
  have hnil : Hid (Own ((w.alloc (.cells #[.int .i64 n, .slice (some ⟨b, off, none⟩) zs.length cap] 28)).alloc (.cells #[] 2)) (w.heap.size + 1) (.slice (some ⟨w.heap.size + 1, 0, none⟩) 0 0) (rcF zs 0)) := by
    have := World.ownsRow_made (w.alloc (.cells #[.int .i64 n, .slice (some ⟨b, off, none⟩) zs.length cap] 28)) #[] 0 (base := w.heap.size + 1) (e := 2) (size := 1) (by simp) (by decide) rfl
    rw [World.size_alloc] at this
    exact this
  go_enter Tryd.func76, Tryd.ntmps76
  go_wp2
  go_loopw [3, 4] (fun u i wr => ∃ k : Nat, k ≤ zs.length ∧ i = .int .i64 k ∧ Hid (Own wr (w.heap.size + 1) u (rcF zs k)) ∧ Below (w.heap.size + 1) (w.alloc (.cells #[.int .i64 n, .slice (some ⟨b, off, none⟩) zs.length cap] 28)) wr) (fun _ i _ => zs.length - (intOf i).toNat)
  case atStart => exact ⟨0, Nat.zero_le _, rfl, hnil, (Below.refl _ _).alloc (by simp) _⟩
  case round =>
    clear hnil
    obtain ⟨k, hk, rfl, HO, hB⟩ := hrel
    have G0 := HG0.out.below hB
    have b0 := G0.b0
    have b1 := G0.b1
    have l0 := G0.lt
    by_cases hlt : (k : Int) < n
    · have hkl : k < zs.length := by have := H3.out; omega
      have hcall := levels_n n b off cap zs k wr G0.lb G0.cells HG.out hkl
      obtain ⟨m, hm⟩ : ∃ m, m = (lvL zs k).length := ⟨_, rfl⟩
      have m1 : 1 ≤ m := by have := lvL_pos hkl; omega
      have m2 : m ≤ 62 := by have := lvL_length hkl; omega
      have HM := Lib.hid hm
      have hw : IntKind.i64.wrap ((m : Int) - 1) = (m : Int) - 1 := IntWalk.i64_in _ ⟨by omega, by omega⟩
      clear hm
      go_wp2_with fail
      refine hcall.mono ?_
      rintro e w2 ⟨u2, rfl, hO2, hb2⟩
      obtain ⟨g2, c2, rfl⟩ : ∃ g2 c2, u2 = .slice (some ⟨g2, 0, none⟩) m c2 := by
        rcases hO2.form with ⟨_, h0⟩ | ⟨g2, c2, h1, _, _⟩
        · have h4 := congrArg List.length h0
          rw [← HM.out, List.length_nil] at h4
          omega
        · rw [← HM.out] at h1
          exact ⟨g2, c2, h1⟩
      have E2 := hB.trans (hb2.mono l0)
      have l2 : w.heap.size + 1 ≤ w2.heap.size := Nat.le_trans l0 hb2.size
      have HO2 : Hid (w2.ownsRow (w.heap.size + 1) 2 1 u3 k ((rcF zs k).map (Value.int .i64))) := by
        have := HO.out.below hb2
        unfold Own at this
        rw [rcF_length] at this
        exact this
      clear hb2 hcall hO2
      go_wp2_with (at_builtin; refine wpList_append_own _ rfl _ _ 22 rfl (w.heap.size + 1) 2 i0 (.int .i64 0) 1 8 Tryd.underlying22 HI.out HI0.out HI1.out HI2.out rfl (by decide) _ _ _ rfl (World.ownsRow.alloc HO2.out _) ⟨w2.heap.size, 0, none⟩ 1 1 [.int .i64 ((m : Int) - 1)] rfl rfl (cell_one_new _ _ _) (by simp [Value.oneCell']) (by unfold maxLen; omega) (by omega) (by simp; omega) ?_; intro u' w3 hown3 hgr3 _)
      have E3 := (E2.alloc l2 _).grown hgr3 (by simp; omega) (fun k e => (World.ownsRow.lt HO2.out k e).1)
      have HN : Hid (Own w3 (w.heap.size + 1) u' (rcF zs (k + 1))) := by
        show World.ownsRow _ _ _ _ _ _ _
        rw [rcF_length, rcF_succ, ← HM.out, List.map_append]
        exact hown3
      clear hown3 hgr3 HO2 HO
      go_wp2
      go_roundw
      case rel => exact ⟨k + 1, by omega, by go_num, HN, E3⟩
      case measure => simp [intOf]; omega
    · have hkl : k = zs.length := by have := H3.out; omega
      subst hkl
      go_wp2
      go_ret
      exact ⟨_, rfl, HO.out.base (by omega), D0.trans (hB.mono (by simp))⟩

set_option maxRecDepth 100000 in
set_option maxHeartbeats 1600000 in
theorem implRc_yes (n : Int) (b off cap : Nat) (zs : List Int) (w : World) (hb : b < w.heap.size) (hc : Cells w b off zs) (hg : isG n zs = true) (hl : zs.length ≤ 9223372036854775807) (hT : Tab w) :
    Calls Tryd.prog 82 #[.agg #[.int .i64 n, .slice (some ⟨b, off, none⟩) zs.length cap]] w fun e w' => LRes w.heap.size (rcF zs zs.length) 0 e w' ∧ Below w.heap.size w w' := by
  obtain ⟨h1a, h1b, h3, -, -⟩ := isG_parts hg
  subst h3
  have hl62 : zs.length ≤ 62 := by omega
  have D0 : Below w.heap.size w (w.alloc (.cells #[.int .i64 zs.length, .slice (some ⟨b, off, none⟩) zs.length cap] 28)) := (Below.refl _ _).alloc (Nat.le_refl _) _
  have his := implIs_some zs.length b off cap zs _ (Nat.lt_of_lt_of_le hb D0.size) (hc.below D0 hb) hl (hT.belowAll D0)
  rw [hg] at his
  have HG0 := Lib.hid (GBox.new (n := zs.length) (cap := cap) hb hc)
  have HG := Lib.hid hg
  have HT := Lib.hid (hT.belowAll D0)
  have hmk := run_mkInts zs.length (by omega)
  clear hc hg hT
  go_enter Tryd.func82, Tryd.ntmps82
  go_wp2_with (go_at_call 41; refine his.mono ?_; rintro e w1 ⟨rfl, hb1⟩; have G1 := HG0.out.below (hb1.mono (by simp)); have b0 := G1.b0; have b1 := G1.b1; have l1x : w.heap.size < w1.heap.size := G1.lt)
  have E1 : Below (w.heap.size + 1) (w.alloc (.cells #[.int .i64 zs.length, .slice (some ⟨b, off, none⟩) zs.length cap] 28)) w1 := hb1.mono (by simp)
  have l1 := G1.lt
  have T1 := Lib.hid (HT.out.belowAll hb1)
  clear hmk hb1 his
  go_loopw [5, 14] (fun _ i wr => ∃ v : Nat, v ≤ zs.length ∧ i = .int .i64 v ∧ Hid (Blk wr w1.heap.size (part (rcF zs zs.length) v)) ∧ Below w1.heap.size w1 wr) (fun _ i _ => zs.length - (intOf i).toNat)
  case atStart => exact ⟨0, Nat.zero_le _, rfl, by show Blk _ _ _; rw [part_zero, rcF_length]; exact Blk.new w1 _, (Below.refl _ _).alloc (Nat.le_refl _) _⟩
  case round =>
    obtain ⟨v, hv, rfl, HO, hB⟩ := hrel
    clear b0 b1
    by_cases hlt : (v : Int) < zs.length
    · have hvl : v < zs.length := by omega
      have G2 := G1.below (hB.mono l1)
      have b0 := G2.b0
      have b1 := G2.b1
      have hv0 : (0 : Int) ≤ v := by omega
      have hcall := levelRows_zero zs.length b off cap zs v wr G2.lb G2.cells (T1.out.below hB T1.out.lt) HG.out hvl
      have hwl := hB.size
      have HBL := Lib.hid HO.out.lt
      go_wp2_with fail
      refine hcall.mono ?_
      rintro e w2 ⟨ls, gl, capl, rfl, hown, hok, hpos, hb2⟩
      have HLN := Lib.hid (congrArg List.length (hok.levels hvl hl62))
      have hlen := hok.len
      have hw : IntKind.i64.wrap ((ls.length : Int) - 1) = (ls.length : Int) - 1 := IntWalk.i64_in _ ⟨by omega, by omega⟩
      have HO2 := HO.out.belowAll hb2
      have hpl := part_length (rcF zs zs.length) v (by rw [rcF_length]; exact hv)
      rw [rcF_length] at hpl
      have hcell : w2.cell? ⟨w1.heap.size, v, none⟩ = some (.int .i64 (el (part (rcF zs zs.length) v) v)) := HO2.cell (by omega)
      have hfr : w2.frozen? ⟨w1.heap.size, v, none⟩ = false := HO2.frozen v
      have HS : Hid (Blk (w2.setCell ⟨w1.heap.size, v, none⟩ (.int .i64 ((ls.length : Int) - 1))) w1.heap.size (part (rcF zs zs.length) (v + 1))) := by
        show Blk _ _ _
        have e := HLN.out
        rw [List.length_map] at e
        rw [← part_succ (rcF zs zs.length) v (by rw [rcF_length]; exact hvl), rcF_at zs _ v hvl, e]
        exact HO2.set v _
      have B2 : Below w1.heap.size w1 (w2.setCell ⟨w1.heap.size, v, none⟩ (.int .i64 ((ls.length : Int) - 1))) := (hB.trans (hb2.mono hwl)).setCell (p := ⟨w1.heap.size, v, none⟩) (Nat.le_refl _) _
      clear hpl HO HO2 hown hok hcall G2 hb2 HLN
      go_wp2
      go_roundw
      case rel => exact ⟨v + 1, by omega, by go_num, HS, B2⟩
      case measure => simp [intOf]; omega
    · have hvl : v = zs.length := by omega
      subst hvl
      have HF : Hid (Own wr w.heap.size (.slice (some ⟨w1.heap.size, 0, none⟩) zs.length zs.length) (rcF zs zs.length)) := by
        have h := HO.out
        have e := part_all (rcF zs zs.length)
        rw [rcF_length] at e
        rw [e] at h
        have := Own.of_blk h (B := w.heap.size) (by omega) (by rw [rcF_length]; unfold maxLen; omega)
        rw [rcF_length] at this
        exact this
      clear HO
      go_wp2
      go_ret2
      exact ⟨⟨_, rfl, HF.out⟩, (D0.trans (E1.mono (by simp))).trans (hB.mono (by omega))⟩

set_option maxHeartbeats 400000 in
theorem implRc_no (n : Int) (v : Value) (zs : List Int) (w : World) (h : Sl w v zs) (hg : isG n zs = false) (hl : zs.length ≤ 9223372036854775807) (hT : Tab w) :
    Calls Tryd.prog 82 #[.agg #[.int .i64 n, v]] w fun e w' => LRes w.heap.size [] 1 e w' ∧ Below w.heap.size w w' := by
  have D0 : Below w.heap.size w (w.alloc (.cells #[.int .i64 n, v] 28)) := (Below.refl _ _).alloc (Nat.le_refl _) _
  have his := implIs_any n v zs _ (h.below D0) hl (hT.belowAll D0)
  rw [hg] at his
  clear hg h hT
  go_enter Tryd.func82, Tryd.ntmps82
  go_wp2_with (go_at_call 41; refine his.mono ?_; rintro e w1 ⟨rfl, hb1⟩)
  go_ret2
  exact ⟨⟨_, rfl, Own.nil _ _⟩, D0.trans (hb1.mono (by simp))⟩

theorem implRc_any (n : Int) (v : Value) (zs : List Int) (w : World) (h : Sl w v zs) (hl : zs.length ≤ 9223372036854775807) (hT : Tab w) :
    Calls Tryd.prog 82 #[.agg #[.int .i64 n, v]] w fun e w' => LRes w.heap.size (RcL n zs) (DC n zs) e w' ∧ Below w.heap.size w w' := by
  cases hg : isG n zs
  · rw [show RcL n zs = [] by simp [RcL, hg], show DC n zs = 1 by simp [DC, hg]]
    exact implRc_no n v zs w h hg hl hT
  · rw [show RcL n zs = rcF zs zs.length by simp [RcL, hg], show DC n zs = 0 by simp [DC, hg]]
    obtain ⟨b, off, cap, rfl, hb, hc⟩ := sl_some h (by have := (isG_parts hg).2.2.1; have := (isG_parts hg).1; omega)
    exact implRc_yes n b off cap zs w hb hc hg hl hT
end Go.Proofs.YtlodaeoikkjbkaaDoor
