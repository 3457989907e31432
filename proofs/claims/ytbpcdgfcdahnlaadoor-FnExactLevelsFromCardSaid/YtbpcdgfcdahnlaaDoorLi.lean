/-
  impl.LevelsFrom.
-/
import Derived.Test.YtbpcdgfcdahnlaaDoorLs
import Derived.Test.YtbpcdgfcdahnlaaDoorCk2
namespace Go.Proofs.YtbpcdgfcdahnlaaDoor
set_option maxRecDepth 100000
open Go.RowKit

theorem levelRows_zero (n : Int) (b off cap : Nat) (zs : List Int) (v : Nat) (w : World) (hb : b < w.heap.size) (hc : Cells w b off zs) (hT : Tab w) (hg : isG n zs = true) (hv : v < zs.length) :
    Calls Tryd.prog 74 #[.agg #[.int .i64 n, .slice (some ⟨b, off, none⟩) zs.length cap], .int .i64 v, .int .i64 0] w fun e w' => ∃ (ls : List Nat) (gl capl : Nat), e = .returned (.slice (some ⟨gl, 0, none⟩) ls.length capl) ∧ w'.ownsRow w.heap.size 2 1 (.slice (some ⟨gl, 0, none⟩) ls.length capl) ls.length (natsV ls) ∧ LvOk zs v 0 ls ∧ 0 < ls.length ∧ Below w.heap.size w w' := by
  have h := levelRows_some n b off cap zs v 0 w hb hc hT hg hv
  rw [show ((0 : Nat) : Int) = 0 from rfl] at h
  refine h.mono ?_
  rintro e w' ⟨⟨u, ls, rfl, hown, hok⟩, hB⟩
  have hpos : 0 < ls.length := by
    refine Nat.pos_of_ne_zero fun h0 => ?_
    have := hok.last v
    rw [h0, lev_zero] at this
    simp at this
  obtain ⟨gl, capl, rfl, _, _⟩ := World.ownsRow.form hown hpos
  exact ⟨ls, gl, capl, rfl, hown, hok, hpos, hB⟩
theorem natsV_at {ls : List Nat} {k r : Nat} (h : ls[k]? = some r) : (natsV ls)[k]? = some (.int .i64 (r : Int)) := by unfold natsV; simp [h]
/-- The numbers of digits. -/
def pcL (ls : List Nat) : List Int := ls.map fun r => ((pc r : Nat) : Int)
theorem pcL_take {ls : List Nat} {k r : Nat} (h : ls[k]? = some r) : pcL (ls.take (k + 1)) = pcL (ls.take k) ++ [((pc r : Nat) : Int)] := by
  unfold pcL; rw [List.take_add_one, h]; simp
theorem pcL_len (ls : List Nat) (k : Nat) : (pcL (ls.take k)).length ≤ k := by unfold pcL; simp; omega
theorem pow_small {r m : Nat} (h : r < 2 ^ m) (hm : m ≤ 62) : (r : Int) ≤ 4611686018427387904 := by
  have : 2 ^ m ≤ 2 ^ 62 := Nat.pow_le_pow_right (by decide) hm
  omega

set_option maxRecDepth 100000 in
set_option maxHeartbeats 1600000 in
theorem implLe_yes (n : Int) (b off cap : Nat) (zs : List Int) (x : Nat) (w : World) (hb : b < w.heap.size) (hc : Cells w b off zs) (hg : isG n zs = true) (hx : x < zs.length) (hl : zs.length ≤ 9223372036854775807) (hT : Tab w) :
    Calls Tryd.prog 46 #[.agg #[.int .i64 n, .slice (some ⟨b, off, none⟩) zs.length cap], .int .i64 x] w fun e w' => LRes w.heap.size (lvL zs x) 0 e w' ∧ Below w.heap.size w w' := by
  have D0 : Below w.heap.size w ((w.alloc (.cells #[.int .i64 n, .slice (some ⟨b, off, none⟩) zs.length cap] 28)).alloc (.cells #[.int .i64 x] 2)) := ((Below.refl _ _).alloc (Nat.le_refl _) _).alloc (by simp) _
  have hx1 := cell_one_new (w.alloc (.cells #[.int .i64 n, .slice (some ⟨b, off, none⟩) zs.length cap] 28)) (.int .i64 x) 2
  rw [World.size_alloc] at hx1
  have hv := chk_some n b off cap zs (w.heap.size + 1) 0 1 [(x : Int)] _ (Nat.lt_of_lt_of_le hb D0.size) (hc.below D0 hb) (by simp) (cells_one (hx1 0 _ rfl)) hg hl (by simp) (hT.belowAll D0)
  obtain ⟨g1, g2, g3, -, -⟩ := isG_parts hg
  rw [vc_yes (by rw [show [(x : Int)].length = 1 from rfl, vs_one]; simp; omega)] at hv
  have HG0 := Lib.hid (GBox.new (n := n) (cap := cap) hb hc)
  have HG := Lib.hid hg
  have hm62 : zs.length ≤ 62 := by omega
  obtain ⟨i0, hi, hz0, hz1, hz2⟩ := info_parts mk_info
  have HI := Lib.hid hi; have HI0 := Lib.hid hz0; have HI1 := Lib.hid hz1; have HI2 := Lib.hid hz2
  have HT := Lib.hid (hT.belowAll D0)
  clear hc hg hx1 g3 hi hz0 hz1 hz2 hT
  go_enter Tryd.func46, Tryd.ntmps46
  go_wp2_with fail
  refine hv.mono ?_
  rintro e w1 ⟨rfl, hb1⟩
  have G1 := HG0.out.below (((Below.refl (w.heap.size + 1) (w.alloc (.cells #[.int .i64 n, .slice (some ⟨b, off, none⟩) zs.length cap] 28))).alloc (by simp) (.cells #[.int .i64 x] 2)).trans (hb1.mono (by simp)))
  have b0 := G1.b0
  have b1 := G1.b1
  have D1 := D0.trans (hb1.mono (by simp; omega))
  have T1 := HT.out.belowAll hb1
  clear hb1 hv
  go_wp2_with fail
  refine (levelRows_zero n b off cap zs x w1 G1.lb G1.cells T1 HG.out hx).mono ?_
  rintro e w2 ⟨ls, gl, capl, rfl, hown, hok, hpos, hb2⟩
  have D2 := D1.trans (hb2.mono D1.size)
  have HO := Lib.hid (ownsRow_base hown D1.size)
  have HLV := Lib.hid (hok.levels hx hm62)
  have HOK := Lib.hid hok
  have hlen := hok.len
  have l2 := D2.size
  clear hown hok hb2 G1 b0 b1 T1 D1
  go_wp2
  go_loopw [7, 21] (fun o t wr => ∃ k : Nat, t = .int .i64 k ∧ k ≤ ls.length ∧ Hid (Own wr w.heap.size o (pcL (ls.take k))) ∧ Hid (wr.ownsRow w.heap.size 2 1 (.slice (some ⟨gl, 0, none⟩) ls.length capl) ls.length (natsV ls)) ∧ o.ownBlock ≠ some gl ∧ Below w.heap.size w wr) (fun _ t _ => ls.length - (intOf t).toNat)
  case atStart => exact ⟨0, rfl, Nat.zero_le _, Own.nil _ _, HO, by simp [Value.ownBlock], D2⟩
  case round =>
    clear HO D2
    obtain ⟨k, rfl, hk, HR, HO, hne, hB⟩ := hrel
    by_cases hlt : (k : Int) < ls.length
    · have hkl : k < ls.length := by omega
      have hk0 : (0 : Int) ≤ k := by omega
      obtain ⟨r, hr⟩ : ∃ r, ls[k]? = some r := ⟨_, List.getElem?_eq_getElem hkl⟩
      have hcl : wr.cell? ⟨gl, k, none⟩ = some (.int .i64 (r : Int)) := (World.ownsRow.cellAt HO.out k (by omega)).trans (natsV_at hr)
      have hr62 := pow_small (HOK.out.bit k r hr).1 hm62
      have hcount := countOf_any (r : Int) wr (by omega) (by omega)
      rw [Int.toNat_natCast] at hcount
      have HPT := Lib.hid (pcL_take hr)
      have hplen := pcL_len ls k
      have hwl := hB.size
      have hglt : gl < wr.heap.size := (World.ownsRow.lt HO.out gl rfl).2
      have HLW : Hid (wr.ownsRow w.heap.size 2 1 u7 (pcL (ls.take k)).length ((pcL (ls.take k)).map (Value.int .i64))) := HR
      clear hr HR
      go_wp2_with (first | (go_at_call 55; refine hcount.mono ?_; rintro e w3 ⟨rfl, rfl⟩) | (at_builtin; refine wpList_append_lies _ rfl _ _ 22 rfl w.heap.size 2 i0 (.int .i64 0) 1 8 Tryd.underlying22 HI.out HI0.out HI1.out HI2.out rfl (by decide) u7 (pcL (ls.take k)).length _ rfl (World.ownsRow.alloc HLW.out _) ⟨wr.heap.size, 0, none⟩ 1 1 [.int .i64 (pc r : Nat)] rfl rfl (cell_one_new _ _ _) (by simp [Value.oneCell']) (by decide) (by unfold maxLen; omega) (by omega) (by simp; omega) (wr.heap.size + 1) (by simp) ?_; intro gg cp w3 hown3 hgr3 hat3 hlt3))
      have hne3 : (Value.slice (some ⟨gg, 0, none⟩) ((pcL (ls.take k)).length + 1) cp).ownBlock ≠ some gl := by
        intro e
        have e2 : gg = gl := by simpa [Value.ownBlock] using e
        rcases hat3 with h | h
        · exact hne (by rw [h, e2])
        · omega
      have HL3 : Hid (Own w3 w.heap.size (.slice (some ⟨gg, 0, none⟩) ((pcL (ls.take k)).length + 1) cp) (pcL (ls.take (k + 1)))) := by
        show World.ownsRow _ _ _ _ _ _ _
        rw [HPT.out, List.map_append, List.length_append]
        exact hown3
      have HO3 : Hid (w3.ownsRow w.heap.size 2 1 (.slice (some ⟨gl, 0, none⟩) ls.length capl) ls.length (natsV ls)) := World.ownsRow.kept (World.ownsRow.alloc HO.out _) hgr3 (.inr (fun e => hne e.symm))
      have B3 : Below w.heap.size w w3 := (hB.alloc hwl _).grown hgr3 (by simp; omega) (fun k e => (World.ownsRow.lt HLW.out k e).1)
      clear hown3 hgr3 hat3 HLW HO hB hne hcl hcount
      go_wp2
      go_roundw
      case rel => exact ⟨k + 1, by go_num, by omega, HL3, HO3, hne3, B3⟩
      case measure => simp [intOf]; omega
    · have hkl : k = ls.length := by omega
      have HF : Hid (Own wr w.heap.size u7 (lvL zs x)) := by
        show Own _ _ _ _
        have h := HR.out
        rw [hkl, List.take_length] at h
        rw [HLV.out]; exact h
      clear HR HO
      go_wp2
      go_ret2
      exact ⟨⟨_, rfl, HF.out⟩, hB⟩

set_option maxHeartbeats 800000 in
theorem implLe_out (n : Int) (b off cap : Nat) (zs : List Int) (x : Int) (w : World) (hb : b < w.heap.size) (hc : Cells w b off zs) (hg : isG n zs = true) (hx : (decide (0 ≤ x) && decide (x ≤ n - 1)) = false) (hl : zs.length ≤ 9223372036854775807) (hT : Tab w) :
    Calls Tryd.prog 46 #[.agg #[.int .i64 n, .slice (some ⟨b, off, none⟩) zs.length cap], .int .i64 x] w fun e w' => LRes w.heap.size [] 2 e w' ∧ Below w.heap.size w w' := by
  have D0 : Below w.heap.size w ((w.alloc (.cells #[.int .i64 n, .slice (some ⟨b, off, none⟩) zs.length cap] 28)).alloc (.cells #[.int .i64 x] 2)) := ((Below.refl _ _).alloc (Nat.le_refl _) _).alloc (by simp) _
  have hx1 := cell_one_new (w.alloc (.cells #[.int .i64 n, .slice (some ⟨b, off, none⟩) zs.length cap] 28)) (.int .i64 x) 2
  rw [World.size_alloc] at hx1
  have hv := chk_some n b off cap zs (w.heap.size + 1) 0 1 [x] _ (Nat.lt_of_lt_of_le hb D0.size) (hc.below D0 hb) (by simp) (cells_one (hx1 0 _ rfl)) hg hl (by simp) (hT.belowAll D0)
  rw [vc_no (by rw [show [x].length = 1 from rfl, vs_one]; exact hx)] at hv
  clear hc hg hx1 hx hT
  go_enter Tryd.func46, Tryd.ntmps46
  go_wp2_with fail
  refine hv.mono ?_
  rintro e w1 ⟨rfl, hb1⟩
  have D1 := D0.trans (hb1.mono (by simp; omega))
  clear hb1 hv
  go_wp2
  go_ret2
  exact ⟨⟨_, rfl, Own.nil _ _⟩, D1⟩

set_option maxHeartbeats 800000 in
theorem implLe_no (n : Int) (v : Value) (zs : List Int) (x : Int) (w : World) (h : Sl w v zs) (hg : isG n zs = false) (hl : zs.length ≤ 9223372036854775807) (hT : Tab w) :
    Calls Tryd.prog 46 #[.agg #[.int .i64 n, v], .int .i64 x] w fun e w' => LRes w.heap.size [] 1 e w' ∧ Below w.heap.size w w' := by
  have D0 : Below w.heap.size w ((w.alloc (.cells #[.int .i64 n, v] 28)).alloc (.cells #[.int .i64 x] 2)) := ((Below.refl _ _).alloc (Nat.le_refl _) _).alloc (by simp) _
  have hv := fun u => chk_no n v u zs _ (h.below D0) hg hl (hT.belowAll D0)
  clear h hg hT
  go_enter Tryd.func46, Tryd.ntmps46
  go_wp2_with fail
  refine (hv _).mono ?_
  rintro e w1 ⟨rfl, hb1⟩
  have D1 := D0.trans (hb1.mono (by simp; omega))
  clear hb1 hv
  go_wp2
  go_ret2
  exact ⟨⟨_, rfl, Own.nil _ _⟩, D1⟩

theorem implLe_any (n : Int) (v : Value) (zs : List Int) (x : Int) (w : World) (h : Sl w v zs) (hl : zs.length ≤ 9223372036854775807) (hT : Tab w) :
    Calls Tryd.prog 46 #[.agg #[.int .i64 n, v], .int .i64 x] w fun e w' => LRes w.heap.size (g1L lvL n zs x) (NC n zs x) e w' ∧ Below w.heap.size w w' := by
  cases hg : isG n zs
  · rw [show g1L lvL n zs x = [] by simp [g1L, hg], show NC n zs x = 1 by simp [NC, hg]]
    exact implLe_no n v zs x w h hg hl hT
  · obtain ⟨h1, _, h3, _⟩ := isG_parts hg
    obtain ⟨b, off, cap, rfl, hb, hc⟩ := sl_some h (by omega)
    cases hx : (decide (0 ≤ x) && decide (x ≤ n - 1))
    · rw [show g1L lvL n zs x = [] by simp [g1L, hg, hx], show NC n zs x = 2 by simp [NC, hg, hx]]
      exact implLe_out n b off cap zs x w hb hc hg hx hl hT
    · rw [show g1L lvL n zs x = lvL zs x.toNat by simp [g1L, hg, hx], show NC n zs x = 0 by simp [NC, hg, hx]]
      simp only [Bool.and_eq_true, decide_eq_true_eq] at hx
      obtain ⟨k, rfl⟩ := Int.eq_ofNat_of_zero_le hx.1
      exact implLe_yes n b off cap zs k w hb hc hg (by omega) hl hT
theorem g1L_len {f : List Int → Nat → List Int} (hf : ∀ zs v, v < zs.length → (f zs v).length ≤ zs.length) (n : Int) (zs : List Int) (x : Int) : (g1L f n zs x).length ≤ zs.length := by
  unfold g1L
  split
  · next h =>
    simp only [Bool.and_eq_true, decide_eq_true_eq] at h
    obtain ⟨h1, h2, h3⟩ := h
    have := (isG_parts h1).2.2.1
    exact hf zs x.toNat (by omega)
  · simp
end Go.Proofs.YtbpcdgfcdahnlaaDoor
