/-
  spec.l07Fill.
-/
import Derived.Test.YtabkfihhfkmioaaDoorFi7
namespace Go.Proofs.YtabkfihhfkmioaaDoor
set_option maxRecDepth 100000
set_option maxRecDepth 100000
open Go.RowKit

theorem isG_le {n : Int} {zs : List Int} (hg : isG n zs = true) {i : Nat} (hi : i < zs.length) : 0 ≤ el zs i ∧ el zs i ≤ 2 ^ zs.length - 1 := by
  obtain ⟨h1, h2, h3, h4, -⟩ := isG_iff.1 hg
  obtain ⟨a, b, -⟩ := h4 i hi
  have e : ((2 : Int) ^ zs.length) = ((2 ^ zs.length : Nat) : Int) := by simp
  rw [e]; omega

set_option maxHeartbeats 6400000 in
theorem fillS_some (b off cap : Nat) (zs : List Int) (k c : Int) (w : World) (hb : b < w.heap.size) (hc : Cells w b off zs) (hfit : FitD zs.length k zs) (hc12 : c ≤ 63) :
    Calls Tryd.prog 93 #[.agg #[.int .i64 zs.length, .slice (some ⟨b, off, none⟩) zs.length cap], .int .i64 k, .int .i64 c] w fun e w' => (∃ u, e = .returned (.agg #[.int .i64 zs.length, u]) ∧ Own w' w.heap.size u (FR zs (pjV (FR zs) k c zs.length zs.length))) ∧ Below w.heap.size w w' := by
  obtain ⟨g1, g2, -, -, -⟩ := isG_parts hfit.2.1
  have h62 : zs.length ≤ 62 := by omega
  have hn0 : 0 < zs.length := by omega
  have HOK := Lib.hid (fill_ok (c := c) hfit)
  obtain ⟨W0, hW0⟩ : ∃ W0, W0 = (w.alloc (.cells #[.int .i64 zs.length, .slice (some ⟨b, off, none⟩) zs.length cap] 26)).alloc (.cells #[.int .i64 0, .slice none 0 0] 26) := ⟨_, rfl⟩
  have hsz2 : w.heap.size + 2 ≤ W0.heap.size := by rw [hW0]; simp
  have D0 : Below w.heap.size w W0 := by rw [hW0]; exact ((Below.refl _ _).alloc (Nat.le_refl _) _).alloc (by simp) _
  have HG0 : Hid (W0.heap[w.heap.size]? = some (.cells #[.int .i64 zs.length, .slice (some ⟨b, off, none⟩) zs.length cap] 26 (0, 0))) := by show _ = _; rw [hW0]; exact heap_old_at (World.alloc_heap_new w _) _
  have HR0 : Hid (W0.heap[w.heap.size + 1]? = some (.cells #[.int .i64 0, .slice none 0 0] 26 (0, 0))) := by show _ = _; rw [hW0]; exact heap_new_at _ _ _ (by simp)
  have HCP := Lib.hid (l01Copy_some zs.length b off cap zs W0 (by omega) (hc.below D0 hb) h62)
  have HD0 := Lib.hid D0
  obtain ⟨a0, a1, -, -⟩ := two_cells HG0.out
  rw [hW0] at a0 a1
  clear hc hfit D0
  go_enter Tryd.func93, Tryd.ntmps93
  go_wp2_with fail
  rw [← hW0]
  clear hW0 a0 a1
  refine HCP.out.mono ?_
  rintro e w1 ⟨u, rfl, hO, hb1⟩
  obtain ⟨g, cu, rfl, hg0, hg1⟩ := own_some8 hO rfl hn0
  obtain ⟨w2, hw2⟩ : ∃ w2, w2 = w1.alloc (.cells #[.int .i64 zs.length, .slice (some ⟨g, 0, none⟩) zs.length cu] 26) := ⟨_, rfl⟩
  obtain ⟨H, hHe⟩ : ∃ H, H = w1.heap.size := ⟨_, rfl⟩
  have hb2 : Below w1.heap.size w1 w2 := by rw [hw2]; exact (Below.refl _ _).alloc (Nat.le_refl _) _
  have s1 := hb1.size
  have hgH : g < H := by omega
  have hH0 : w.heap.size + 2 ≤ H := by omega
  have hHl : H < w2.heap.size := by rw [hw2, hHe]; simp
  have HH : Hid (w2.heap[H]? = some (.cells #[.int .i64 zs.length, .slice (some ⟨g, 0, none⟩) zs.length cu] 26 (0, 0))) := by show _ = _; rw [hw2, hHe]; exact World.alloc_heap_new w1 _
  have HO : Hid (Own w2 W0.heap.size (.slice (some ⟨g, 0, none⟩) zs.length cu) (FR zs (pjV (FR zs) k c zs.length 0))) := hO.below hb2
  have HB : Hid (Below w.heap.size w w2) := HD0.out.trans ((hb1.mono (by omega)).trans (hb2.mono (by omega)))
  have HG : Hid (w2.heap[w.heap.size]? = some (.cells #[.int .i64 zs.length, .slice (some ⟨b, off, none⟩) zs.length cap] 26 (0, 0))) := (hb2.block _ (by omega)).trans ((hb1.block _ (by omega)).trans HG0.out)
  have HR : Hid (w2.heap[w.heap.size + 1]? = some (.cells #[.int .i64 0, .slice none 0 0] 26 (0, 0))) := (hb2.block _ (by omega)).trans ((hb1.block _ (by omega)).trans HR0.out)
  go_wp2_with fail
  rw [← hw2]
  rw [← hHe] at *
  clear hw2 hHe hO hb1 hb2 HCP HG0 HR0 HD0
  go_loopw [8, 9] (fun i _ wr => ∃ v : Nat, v ≤ zs.length ∧ i = .int .i64 v ∧ Hid (Own wr W0.heap.size (.slice (some ⟨g, 0, none⟩) zs.length cu) (FR zs (pjV (FR zs) k c zs.length v))) ∧ Hid (wr.heap[H]? = some (.cells #[.int .i64 zs.length, .slice (some ⟨g, 0, none⟩) zs.length cu] 26 (0, 0))) ∧ Hid (Below w.heap.size w wr) ∧ Hid (wr.heap[w.heap.size]? = some (.cells #[.int .i64 zs.length, .slice (some ⟨b, off, none⟩) zs.length cap] 26 (0, 0))) ∧ Hid (wr.heap[w.heap.size + 1]? = some (.cells #[.int .i64 0, .slice none 0 0] 26 (0, 0)))) (fun i _ _ => zs.length - (intOf i).toNat)
  case atStart => exact ⟨0, Nat.zero_le _, rfl, HO, HH, HB, HG, HR⟩
  case round =>
    clear HO HH HB HG HR
    obtain ⟨v, hv, rfl, HO, HH, HB, HG, HR⟩ := hrel
    obtain ⟨b0, b1, -, -⟩ := two_cells HG.out
    by_cases hlt : (v : Int) < zs.length
    · have hvl : v < zs.length := by omega
      have hv0 : (0 : Int) ≤ v := by omega
      have HO1 : Hid (Own wr W0.heap.size (.slice (some ⟨g, 0, none⟩) zs.length cu) (FR zs (pjW (FR zs) k c v (pjV (FR zs) k c zs.length v) (v + 1)))) := by show Own _ _ _ _; rw [pjW_start _ _ _ (Nat.le_refl _)]; exact HO.out
      go_wp2_with fail
      clear b0 b1 HO
      obtain ⟨wo, rfl⟩ : ∃ wo : World, wo = wr := ⟨_, rfl⟩
      go_loopw [9] (fun i wr => ∃ y : Nat, v < y ∧ y ≤ zs.length ∧ i = .int .i64 y ∧ Hid (Own wr W0.heap.size (.slice (some ⟨g, 0, none⟩) zs.length cu) (FR zs (pjW (FR zs) k c v (pjV (FR zs) k c zs.length v) y))) ∧ Hid (wr.heap[H]? = some (.cells #[.int .i64 zs.length, .slice (some ⟨g, 0, none⟩) zs.length cu] 26 (0, 0))) ∧ Hid (Below w.heap.size w wr) ∧ Hid (wr.heap[w.heap.size]? = some (.cells #[.int .i64 zs.length, .slice (some ⟨b, off, none⟩) zs.length cap] 26 (0, 0))) ∧ Hid (wr.heap[w.heap.size + 1]? = some (.cells #[.int .i64 0, .slice none 0 0] 26 (0, 0)))) (fun i _ => zs.length - (intOf i).toNat)
      case atStart => exact ⟨v + 1, by omega, by omega, by go_num, HO1, HH, HB, HG, HR⟩
      case round =>
        clear HO1 HH HB HG HR
        obtain ⟨y, hvy, hy, rfl, HO, HH, HB, HG, HR⟩ := hrel
        obtain ⟨b0, b1, -, -⟩ := two_cells HG.out
        by_cases hly : (y : Int) < zs.length
        · have hyl : y < zs.length := by omega
          have hy0 : (0 : Int) ≤ y := by omega
          obtain ⟨q, hq⟩ : ∃ q, q = pjW (FR zs) k c v (pjV (FR zs) k c zs.length v) y := ⟨_, rfl⟩
          have hfit := (HOK.out v (by omega)).2 y (by omega)
          have HYS : Hid (mayB (FR zs q) k c v y = true → pjW (FR zs) k c v (pjV (FR zs) k c zs.length v) (y + 1) = q ++ [(v, y)]) := fun h => by
            rw [hq] at h ⊢
            exact pjW_yes hvy h
          have HNS : Hid (mayB (FR zs q) k c v y = false → pjW (FR zs) k c v (pjV (FR zs) k c zs.length v) (y + 1) = q) := fun h => by
            rw [hq] at h ⊢
            exact pjW_no h
          rw [← hq] at hfit HO
          have hl := FR_length zs q
          obtain ⟨-, f2, -⟩ := hfit
          have hgl : g < wr.heap.size := (World.ownsRow.lt HO.out g rfl).2
          have HMS := Lib.hid (by
            have h := mayS_some g 0 cu (FR zs q) v y k c wr hgl (own_cells8 HO.out hl) (by rw [hl]; exact f2) (by omega) (by omega) (by omega) hc12
            rw [hl] at h
            exact h)
          obtain ⟨x0, x1, -, -⟩ := two_cells HH.out
          clear hq
          cases hmb : mayB (FR zs q) k c v y with
          | false =>
            rw [hmb] at HMS
            have HE := Lib.hid (HNS.out hmb)
            clear hmb hl f2
            go_wp2_with (go_at_call 117; refine HMS.out.mono ?_; rintro e w5 ⟨rfl, hb5⟩)
            have lo : ∀ {p : Nat} {ob : Obj}, wr.heap[p]? = some ob → w5.heap[p]? = some ob := fun h => (hb5.block _ (Array.getElem?_eq_some_iff.1 h).1).trans h
            have HO5 : Hid (Own w5 W0.heap.size (.slice (some ⟨g, 0, none⟩) zs.length cu) (FR zs (pjW (FR zs) k c v (pjV (FR zs) k c zs.length v) (y + 1)))) := by show Own _ _ _ _; rw [HE.out]; exact HO.out.below hb5
            go_roundw
            case rel => exact ⟨y + 1, by omega, by omega, by go_num, HO5, lo HH.out, HB.out.trans (hb5.mono HB.out.size), lo HG.out, lo HR.out⟩
            case measure => simp [intOf]; omega
          | true =>
            rw [hmb] at HMS
            have HE := Lib.hid (HYS.out hmb)
            have hmp := (mayB_parts hmb).1
            have hpf : putL (FR zs q) v y = flipL (FR zs q) v y := putL_flip (by omega) hmp (by rw [isG_symm (a := v) (b := y) f2 (by omega) (by omega)]; exact hmp)
            have HPT : Hid (∀ W, Own W W0.heap.size (.slice (some ⟨g, 0, none⟩) zs.length cu) (FR zs q) → g < W.heap.size → Calls Tryd.prog 62 #[.agg #[.int .i64 zs.length, .slice (some ⟨g, 0, none⟩) zs.length cu], .int .i64 v, .int .i64 y] W fun e W' => (∃ r, e = .returned r) ∧ Own W' W0.heap.size (.slice (some ⟨g, 0, none⟩) zs.length cu) (FR zs (q ++ [(v, y)])) ∧ W.grownBy W' (some g)) := fun W h1 h2 => by
              have h := l01Put_some zs.length g cu W0.heap.size zs.length (FR zs q) v y W hl h1 h2 hvl hyl h62 (fun i hi => by have := isG_le f2 (i := i) (by omega); rw [hl] at this; exact this)
              rw [hpf, ← FR_snoc] at h
              exact h
            clear hmb hl f2 hpf hmp
            go_wp2_with (first
              | (go_at_call 117; refine HMS.out.mono ?_; rintro e w5 ⟨rfl, hb5⟩; obtain ⟨y0, y1, -, -⟩ := two_cells ((hb5.block H (Array.getElem?_eq_some_iff.1 HH.out).1).trans HH.out))
              | (go_at_call 62; refine (HPT.out w5 (HO.out.below hb5) (Nat.lt_of_lt_of_le hgl hb5.size)).mono ?_; rintro e w6 ⟨⟨_, rfl⟩, hO6, hg6⟩))
            have lo : ∀ {p : Nat} {ob : Obj}, p ≠ g → wr.heap[p]? = some ob → w6.heap[p]? = some ob := fun hp h => (hg6.block _ (Nat.lt_of_lt_of_le (Array.getElem?_eq_some_iff.1 h).1 hb5.size) (fun e => by injection e with e; exact hp e)).trans ((hb5.block _ (Array.getElem?_eq_some_iff.1 h).1).trans h)
            have HO6 : Hid (Own w6 W0.heap.size (.slice (some ⟨g, 0, none⟩) zs.length cu) (FR zs (pjW (FR zs) k c v (pjV (FR zs) k c zs.length v) (y + 1)))) := by show Own _ _ _ _; rw [HE.out]; exact hO6
            have hB5 := HB.out.trans (hb5.mono HB.out.size)
            have hB6 := hB5.grown hg6 hB5.size (fun p e => by cases e; omega)
            go_roundw
            case rel => exact ⟨y + 1, by omega, by omega, by go_num, HO6, lo (by omega) HH.out, hB6, lo (by omega) HG.out, lo (by omega) HR.out⟩
            case measure => simp [intOf]; omega
        · obtain rfl : y = zs.length := by omega
          go_wp2_with fail
          go_roundw
          case rel => exact ⟨v + 1, by omega, by go_num, HO, HH, HB, HG, HR⟩
          case measure => simp [intOf]; omega
    · obtain rfl : v = zs.length := by omega
      obtain ⟨x0, x1, -, -⟩ := two_cells HH.out
      obtain ⟨r0, r1, f0, f1⟩ := two_cells HR.out
      go_wp2_with fail
      have hg : wr.grownBy ((wr.setCell ⟨w.heap.size + 1, 0, none⟩ (.int .i64 zs.length)).setCell ⟨w.heap.size + 1, 1, none⟩ (.slice (some ⟨g, 0, none⟩) zs.length cu)) (some (w.heap.size + 1)) := grown_set (grown_set ⟨rfl, rfl, rfl, Nat.le_refl _, fun _ _ _ => rfl⟩ _ 0 _) _ 1 _
      have hfin := two_set (a := .int .i64 zs.length) (b := .slice (some ⟨g, 0, none⟩) zs.length cu) HR.out
      refine bodyPost_ret (v := .agg #[.int .i64 zs.length, .slice (some ⟨g, 0, none⟩) zs.length cu]) (results_cell_row (p := 6) (ty := 26) rfl _ _ (w.heap.size + 1) 26 _ (0, 0) _ rfl hfin Tryd.underlying26 rfl (by exact info27)) rfl ⟨⟨_, rfl, ?_⟩, ?_⟩
      · exact (HO.out.kept hg (.inr (by simp [Value.ownBlock]; omega))).base (by omega)
      · exact (HB.out.setCell (p := ⟨w.heap.size + 1, 0, none⟩) (by simp) _).setCell (p := ⟨w.heap.size + 1, 1, none⟩) (by simp) _
end Go.Proofs.YtabkfihhfkmioaaDoor
