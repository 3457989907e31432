/-
  impl.LiftedWalk, whatever comes in.
-/
import Derived.Test.YthonkphjahomeaaDoorWk6
namespace Go.Proofs.YthonkphjahomeaaDoor
set_option maxRecDepth 100000
open Go.RowKit

def LResW (B : Nat) (L : List Int) (c : Int) (e : Ending) (w' : World) : Prop := ∃ u, e = .returned (.tuple #[u, .int .i64 c]) ∧ Own w' B u L
theorem lwV_le {n m r k : Nat} {fs zs : List Int} (hav : AvOk n m k fs) (hnb : nbTo k zs zs.length = true) (hn : n ≤ 10) (hm : m ≤ 62) (hr : r < m) : ∀ i, i ≤ zs.length → 1 ≤ zs.length → lwV m fs zs r i ≤ 10000
  | 0, _, h1 => by
    have h2 := (stA_lt hav (nbTo_at hnb (show 0 < zs.length by omega)).2).1
    have h3 : stA m fs (sp zs 0) 0 * m ≤ 10 * 62 := Nat.mul_le_mul (by omega) hm
    rw [lwV]; omega
  | i + 1, h, _ => by
    have h2 := (stA_lt hav (nbTo_at hnb (show i < zs.length by omega)).2).2.1
    have h3 : stA m fs (sp zs i) 1 * m ≤ 10 * 62 := Nat.mul_le_mul (by omega) hm
    have h4 := lwI_lt fs zs hr (i + 1)
    rw [lwV]; omega

set_option maxHeartbeats 1600000 in
theorem implLw_none (n m r : Int) (v : Value) (k : Nat) (fs zs : List Int) (p : Option Addr) (c : Nat) (w : World) (hs : Sa w v k fs) (hk : k ≤ 9223372036854775807) (hz : Sl w (.slice p zs.length c) zs) (hc : zs.length ≤ c) (hl : zs.length ≤ 9223372036854775807) (hE : ErrW w) (hg : isB n m k fs = false) :
    Calls Tryd.prog 16 #[.agg #[.int .i64 n, .int .i64 m, v], .slice p zs.length c, .int .i64 r] w fun e w' => e = .returned (.tuple #[.slice none 0 0, .int .i64 1]) ∧ Below w.heap.size w w' := by
  have D0 : Below w.heap.size w (w.alloc (.cells #[.int .i64 n, .int .i64 m, v] 31)) := (Below.refl _ _).alloc (Nat.le_refl _) _
  have HG0 := Lib.hid (World.alloc_heap_new w (.cells #[.int .i64 n, .int .i64 m, v] 31))
  obtain ⟨W0, hW0⟩ : ∃ W0, W0 = w.alloc (.cells #[.int .i64 n, .int .i64 m, v] 31) := ⟨_, rfl⟩
  have sz0 : w.heap.size + 1 ≤ W0.heap.size := by rw [hW0]; simp
  rw [← hW0] at HG0 D0
  have his := implIs_any n m v k fs W0 (hs.below D0) hk
  rw [hg] at his
  have e1 : wkC n m k fs zs = 1 := by unfold wkC; rw [hg]; rfl
  have HWK : Hid (∀ W1, Below W0.heap.size W0 W1 → Calls Tryd.prog 23 #[.agg #[.int .i64 n, .int .i64 m, v], .slice p zs.length c] W1 fun e w' => (∃ q, e = .returned (.tuple #[q, .int .i64 1])) ∧ Below W1.heap.size W1 w') := fun W1 h => by
    have h' := D0.trans (h.mono (by omega))
    have := walkOf_any n m v k fs zs p c W1 (hs.below h') hk (hz.below h') hc hl (hE.belowAll h')
    rw [e1] at this
    exact this.mono fun e w' ⟨⟨q, h1, _⟩, h2⟩ => ⟨⟨q, h1⟩, h2⟩
  have HD := Lib.hid D0
  obtain ⟨⟨b0, b1, b2⟩, -⟩ := three_cells HG0.out
  clear hs hz hE hg e1 D0
  go_enter Tryd.func16, Tryd.ntmps16
  go_upto_region 1 with fail
  rw [← hW0]
  clear hW0
  go_wp2_with fail
  refine his.mono ?_
  rintro e w1 ⟨rfl, E1⟩
  have hwk := Lib.hid (HWK.out w1 E1)
  have e1 := E1.size
  obtain ⟨⟨b0, b1, b2⟩, -⟩ := three_cells ((E1.block w.heap.size (by omega)).trans HG0.out)
  clear his HWK
  go_wp2_with fail
  refine hwk.out.mono ?_
  rintro e w2 ⟨⟨q, rfl⟩, hb2⟩
  clear hwk b0 b1 b2
  go_wp2_with fail
  go_ret2
  exact ⟨rfl, HD.out.trans ((E1.trans (hb2.mono e1)).mono HD.out.size)⟩

set_option maxHeartbeats 1600000 in
theorem implLw_bad1 (n m r : Int) (v : Value) (k : Nat) (fs : List Int) (p : Option Addr) (c : Nat) (w : World) (hs : Sa w v k fs) (hk : k ≤ 9223372036854775807) (hg : isB n m k fs = true) :
    Calls Tryd.prog 16 #[.agg #[.int .i64 n, .int .i64 m, v], .slice p 0 c, .int .i64 r] w fun e w' => e = .returned (.tuple #[.slice none 0 0, .int .i64 2]) ∧ Below w.heap.size w w' := by
  have D0 : Below w.heap.size w (w.alloc (.cells #[.int .i64 n, .int .i64 m, v] 31)) := (Below.refl _ _).alloc (Nat.le_refl _) _
  have his := implIs_any n m v k fs (w.alloc (.cells #[.int .i64 n, .int .i64 m, v] 31)) (hs.below D0) hk
  rw [hg] at his
  clear hs hg
  go_enter Tryd.func16, Tryd.ntmps16
  go_wp2_with (go_at_call 28; refine his.mono ?_; rintro e w1 ⟨rfl, hb1⟩)
  go_ret2
  exact ⟨rfl, D0.trans (hb1.mono (by simp))⟩

set_option maxHeartbeats 1600000 in
theorem implLw_bad2 (n m r : Int) (v : Value) (k K : Nat) (fs : List Int) (p : Option Addr) (c : Nat) (w : World) (hs : Sa w v k fs) (hk : k ≤ 9223372036854775807) (hg : isB n m k fs = true) (h1 : 1 ≤ K) (hr : (decide (0 ≤ r) && decide (r < m)) = false) :
    Calls Tryd.prog 16 #[.agg #[.int .i64 n, .int .i64 m, v], .slice p K c, .int .i64 r] w fun e w' => e = .returned (.tuple #[.slice none 0 0, .int .i64 2]) ∧ Below w.heap.size w w' := by
  have D0 : Below w.heap.size w (w.alloc (.cells #[.int .i64 n, .int .i64 m, v] 31)) := (Below.refl _ _).alloc (Nat.le_refl _) _
  have HG0 := Lib.hid (World.alloc_heap_new w (.cells #[.int .i64 n, .int .i64 m, v] 31))
  obtain ⟨W0, hW0⟩ : ∃ W0, W0 = w.alloc (.cells #[.int .i64 n, .int .i64 m, v] 31) := ⟨_, rfl⟩
  have sz0 : w.heap.size + 1 ≤ W0.heap.size := by rw [hW0]; simp
  rw [← hW0] at HG0 D0
  have his := implIs_any n m v k fs W0 (hs.below D0) hk
  rw [hg] at his
  have hre := fun W : World => isRest_any m r W
  rw [hr] at hre
  have hne : ¬ ((K : Int) = 0) := by omega
  have HD := Lib.hid D0
  obtain ⟨⟨b0, b1, b2⟩, -⟩ := three_cells HG0.out
  clear hs hg hr D0
  go_enter Tryd.func16, Tryd.ntmps16
  go_upto_region 1 with fail
  rw [← hW0]
  clear hW0
  go_wp2_with fail
  refine his.mono ?_
  rintro e w1 ⟨rfl, E1⟩
  obtain ⟨⟨b0, b1, b2⟩, -⟩ := three_cells ((E1.block w.heap.size (by omega)).trans HG0.out)
  clear his
  go_wp2_with fail
  refine (hre _).mono ?_
  rintro e w2 ⟨rfl, rfl⟩
  go_wp2_with fail
  go_ret2
  exact ⟨rfl, HD.out.trans (E1.mono HD.out.size)⟩

set_option maxHeartbeats 6400000 in
theorem implLw_in (n m k cap r : Nat) (sa : Option Addr) (fs zs : List Int) (p : Option Addr) (c : Nat) (w : World) (hs : Sa w (.slice sa k cap) k fs) (hav : AvOk n m k fs) (hnm : n ≤ 10 ∧ m ≤ 62 ∧ k ≤ 16) (hg : isB n m k fs = true) (hz : Sl w (.slice p zs.length c) zs) (hc : zs.length ≤ c) (hl : zs.length ≤ 9223372036854775807) (hE : ErrW w) (h1 : 1 ≤ zs.length) (hr : r < m) (C : Int) (hC : wkC n m k fs zs = C) (D : List Int) (hD : D = if C = 0 then lwL m fs zs r zs.length else []) :
    Calls Tryd.prog 16 #[.agg #[.int .i64 n, .int .i64 m, .slice sa k cap], .slice p zs.length c, .int .i64 r] w fun e w' => LResW w.heap.size D C e w' ∧ Below w.heap.size w w' := by
  have D0 : Below w.heap.size w (w.alloc (.cells #[.int .i64 n, .int .i64 m, .slice sa k cap] 31)) := (Below.refl _ _).alloc (Nat.le_refl _) _
  have HG0 := Lib.hid (World.alloc_heap_new w (.cells #[.int .i64 n, .int .i64 m, .slice sa k cap] 31))
  obtain ⟨W0, hW0⟩ : ∃ W0, W0 = w.alloc (.cells #[.int .i64 n, .int .i64 m, .slice sa k cap] 31) := ⟨_, rfl⟩
  have sz0 : w.heap.size + 1 ≤ W0.heap.size := by rw [hW0]; simp
  rw [← hW0] at HG0 D0
  have his := implIs_any n m (.slice sa k cap) k fs W0 (hs.below D0) (by omega)
  rw [hg] at his
  have hre := fun W : World => isRest_any m r W
  rw [show (decide ((0 : Int) ≤ (r : Int)) && decide ((r : Int) < (m : Int))) = true by simp; omega] at hre
  have hne : ¬ ((zs.length : Int) = 0) := by omega
  have HWK : Hid (∀ W1, Below W0.heap.size W0 W1 → Calls Tryd.prog 23 #[.agg #[.int .i64 n, .int .i64 m, .slice sa k cap], .slice p zs.length c] W1 fun e w' => (∃ q, e = .returned (.tuple #[q, .int .i64 C]) ∧ (Hid (C = 0) → Hid (Ch w' W1.heap.size m fs zs 0 zs.length q))) ∧ Below W1.heap.size W1 w') := fun W1 h => by
    have h' := D0.trans (h.mono (by omega))
    have := walkOf_any n m (.slice sa k cap) k fs zs p c W1 (hs.below h') (by omega) (hz.below h') hc hl (hE.belowAll h')
    rw [hC, Int.toNat_natCast] at this
    exact this.mono fun e w' ⟨⟨q, h1, h3⟩, h2⟩ => ⟨⟨q, h1, fun h => h3 h.out⟩, h2⟩
  have HBX : Hid (∀ W, Below W0.heap.size W0 W → W.cell? ⟨w.heap.size, 0, none⟩ = some (.int .i64 n) ∧ W.cell? ⟨w.heap.size, 1, none⟩ = some (.int .i64 m) ∧ W.cell? ⟨w.heap.size, 2, none⟩ = some (.slice sa k cap)) := fun W h => (three_cells ((h.block w.heap.size (by omega)).trans HG0.out)).1
  have HFA : Hid (C = 0 → (∀ i, i ≤ zs.length → lwV m fs zs r i ≤ 10000) ∧ (∀ i, i < zs.length → stA m fs (sp zs i) 0 < n ∧ stA m fs (sp zs i) 1 < n ∧ stA m fs (sp zs i) 2 < m) ∧ zs.length ≤ 14) := fun h => by
    obtain ⟨_, h14, hnb, _⟩ := wk_parts (hC.trans h)
    exact ⟨fun i hi => lwV_le hav hnb hnm.1 hnm.2.1 hr i hi h1, fun i hi => stA_lt hav (nbTo_at hnb hi).2, h14⟩
  have HST : Hid (∀ i, lwV m fs zs r (i + 1) = stA m fs (sp zs i) 1 * m + (lwV m fs zs r i + stA m fs (sp zs i) 2) % m) := lwV_step fs zs hr
  have HD := Lib.hid D0
  obtain ⟨n2, m2, k16⟩ := hnm
  obtain ⟨b0, b1, b2⟩ := HBX.out W0 (Below.refl _ _)
  obtain ⟨i0, hi, hz0, hz1, hz2⟩ := info_parts mk_info
  have HI := Lib.hid hi; have HI0 := Lib.hid hz0; have HI1 := Lib.hid hz1; have HI2 := Lib.hid hz2
  obtain ⟨K, hK⟩ : ∃ K, K = zs.length := ⟨_, rfl⟩
  rw [← hK] at h1 hne HWK HFA hD ⊢
  have HDD := Lib.hid hD
  clear hs hg hz hE hC D0 HG0 hav hi hz0 hz1 hz2 hl hc hK hD
  go_enter Tryd.func16, Tryd.ntmps16
  go_upto_region 1 with fail
  rw [← hW0]
  clear hW0
  go_wp2_with fail
  refine his.mono ?_
  rintro e w1 ⟨rfl, E1⟩
  have hwk := Lib.hid (HWK.out w1 E1)
  have e1 := E1.size
  obtain ⟨b0, b1, b2⟩ := HBX.out w1 E1
  clear his HWK
  go_wp2_with fail
  refine (hre _).mono ?_
  rintro e w2 ⟨rfl, rfl⟩
  go_wp2_with fail
  refine hwk.out.mono ?_
  rintro e w2 ⟨⟨q, rfl, hch⟩, hb2⟩
  have E2 := E1.trans (hb2.mono e1)
  have e2 := E2.size
  have s2 := hb2.size
  clear hwk hb2 hre b0 b1 b2
  by_cases h0 : C = 0
  · have HDL : Hid (D = lwL m fs zs r K) := by show _ = _; rw [HDD.out, if_pos h0]
    clear HDD
    obtain ⟨HLE', HLT', h14⟩ := HFA.out h0
    have HLE := Lib.hid HLE'; have HLT := Lib.hid HLT'
    have HC : Hid (Ch w2 0 m fs zs 0 (K - 0) q) := (hch h0).out.kept (Nat.zero_le _) (fun _ _ _ => rfl)
    obtain ⟨a0, rfl⟩ := HC.out.ptr
    subst h0
    obtain ⟨d, hd⟩ : ∃ d, K - 0 = d + 1 := ⟨K - 1, by omega⟩
    have hc0 := HC.out
    rw [hd] at hc0
    obtain ⟨g, q0, ea, hgl, hgc, -, -⟩ := hc0.step
    injection ea with ea
    subst ea
    obtain ⟨⟨x0, x1, x2, x3, x4⟩, -⟩ := five_cells hgc
    obtain ⟨b0, b1, b2⟩ := HBX.out w2 E2
    have hv0 := HLE.out 0 (by omega)
    obtain ⟨hf0, -, -⟩ := HLT.out 0 (by omega)
    obtain ⟨v0, hv⟩ : ∃ v0, v0 = lwV m fs zs r 0 := ⟨_, rfl⟩
    obtain ⟨f0, hf⟩ : ∃ f0, f0 = stA m fs (sp zs 0) 0 := ⟨_, rfl⟩
    have hfm : f0 * m ≤ 10 * 62 := Nat.mul_le_mul (by rw [hf]; omega) m2
    obtain ⟨y, hy⟩ : ∃ y, y = f0 * m := ⟨_, rfl⟩
    have hyv : (y : Int) + r = v0 := by rw [hv, lwV, ← hf, hy]; push_cast; rfl
    rw [← hf] at x1
    rw [← hy] at hfm
    have k0 : (f0 : Int) * (m : Int) = (y : Int) := by rw [hy]; push_cast; rfl
    have k1 : IntKind.i64.wrap (y : Int) = (y : Int) := IntWalk.i64_in _ (by omega)
    have k2 : IntKind.i64.wrap ((y : Int) + r) = (v0 : Int) := by rw [hyv]; rw [← hv] at hv0; exact IntWalk.i64_in _ (by omega)
    have HV0 := Lib.hid hv
    have HL0 : Hid (lwL m fs zs r 0 = [(v0 : Int)]) := by show _ = _; rw [lwL_zero, hv, lwV]
    clear hch HFA hd hc0 hgc hv hf hy hyv hv0 hf0
    go_wp2_with fail
    go_quiet (fail)
    go_wp2_with fail
    have hnil : Hid (Own ((w2.drewN nq).alloc (.cells #[.int .i64 v0] 2)) w2.heap.size (.slice (some ⟨w2.heap.size, 0, none⟩) 1 1) (lwL m fs zs r 0)) := by
      show Own _ _ _ _
      rw [HL0.out]
      exact Own.of_blk (Blk.new (w2.drewN nq) [(v0 : Int)]) (Nat.le_refl _) (by unfold maxLen; simp)
    obtain ⟨w3, h3⟩ : ∃ w3, w3 = (w2.drewN nq).alloc (.cells #[.int .i64 v0] 2) := ⟨_, rfl⟩
    have B3 : Below w2.heap.size w2 w3 := by rw [h3]; exact (drewN_below (Below.refl _ _) nq).alloc (Nat.le_refl _) _
    rw [← h3] at hnil ⊢
    clear h3 x0 x1 x2 x3 x4 b0 b1 b2 k0 k1 k2 hfm HL0
    go_loopw [10, 11, 12] (fun vv uv qv wr => ∃ (i v : Nat) (a : Option Addr), i ≤ K ∧ vv = .int .i64 v ∧ Hid (v = lwV m fs zs r i) ∧ Hid (Own wr w2.heap.size uv (lwL m fs zs r i)) ∧ qv = .pointer a ∧ Hid (Ch w2 0 m fs zs i (K - i) (.pointer a)) ∧ Below w2.heap.size w2 wr) (fun _ _ qv _ => chM w2.heap.size qv)
    case atStart => exact ⟨0, v0, _, Nat.zero_le _, rfl, HV0, hnil, rfl, HC, B3⟩
    case round =>
      clear hnil B3
      obtain ⟨i, v, a, hi, rfl, HV, HO, rfl, HCH, hB⟩ := hrel
      obtain ⟨b0, b1, b2⟩ := HBX.out wr (E2.trans (hB.mono e2))
      by_cases hlt : i < K
      · obtain ⟨d, hd⟩ : ∃ d, K - i = d + 1 := ⟨K - i - 1, by omega⟩
        have hch := HCH.out
        rw [hd] at hch
        obtain ⟨g', q, ea, hgl', hgc, hnx, hms⟩ := hch.step
        injection ea with ea
        subst ea
        have HN : Hid (Ch w2 0 m fs zs (i + 1) (K - (i + 1)) (.pointer q)) := by show Ch _ _ _ _ _ _ _ _; rw [show K - (i + 1) = d by omega]; exact hnx
        have HM : Hid (chM w2.heap.size (.pointer q) < w2.heap.size - g') := hms
        obtain ⟨s, hs⟩ : ∃ s, s = sp zs i := ⟨_, rfl⟩
        obtain ⟨f, hf⟩ : ∃ f, f = stA m fs s 0 := ⟨_, rfl⟩
        obtain ⟨t, ht⟩ : ∃ t, t = stA m fs s 1 := ⟨_, rfl⟩
        obtain ⟨e, he⟩ : ∃ e, e = stA m fs s 2 := ⟨_, rfl⟩
        obtain ⟨v', hv'⟩ : ∃ v', v' = lwV m fs zs r (i + 1) := ⟨_, rfl⟩
        have hvr : v' = t * m + (v + e) % m := by rw [hv', HST.out, HV.out, ht, he, hs]
        have hlts := HLT.out i hlt
        rw [← hs, ← ht, ← he] at hlts
        have hvle := HLE.out i hi
        rw [← HV.out] at hvle
        rw [← hs, ← hf, ← ht, ← he] at hgc
        have HEL := Lib.hid (endL_any m f t e v v' wr.drew (by omega) m2 (by omega) hlts.2.2 hvle hvr)
        have HV' : Hid (v' = lwV m fs zs r (i + 1)) := hv'
        have HLN : Hid (lwL m fs zs r (i + 1) = lwL m fs zs r i ++ [(v' : Int)]) := by show _ = _; rw [lwL_succ, hv']
        have hS : ∀ W, Below wr.heap.size wr W → (W.cell? ⟨w.heap.size, 0, none⟩ = some (.int .i64 n) ∧ W.cell? ⟨w.heap.size, 1, none⟩ = some (.int .i64 m) ∧ W.cell? ⟨w.heap.size, 2, none⟩ = some (.slice sa k cap)) ∧ (W.cell? ⟨g', 0, none⟩ = some (.int .i64 s) ∧ W.cell? ⟨g', 1, none⟩ = some (.int .i64 f) ∧ W.cell? ⟨g', 2, none⟩ = some (.int .i64 t) ∧ W.cell? ⟨g', 3, none⟩ = some (.int .i64 e) ∧ W.cell? ⟨g', 4, none⟩ = some (.pointer q)) := fun W hW =>
          ⟨HBX.out W (E2.trans ((hB.trans (hW.mono hB.size)).mono e2)), (five_cells (((hB.trans (hW.mono hB.size)).block g' hgl').trans hgc)).1⟩
        have HS := Lib.hid hS
        have HGC : Hid (∀ W, Below w2.heap.size w2 W → W.heap[g']? = some (.cells #[.int .i64 s, .int .i64 f, .int .i64 t, .int .i64 e, .pointer q] 54 (0, 0))) := fun W h => (h.block g' hgl').trans hgc
        obtain ⟨⟨b0, b1, b2⟩, x0, x1, x2, x3, x4⟩ := hS wr (Below.refl _ _)
        have hso := hB.size
        clear hch hgc hnx hms hs hf ht he hv' hvr hlts hvle hS hd HV HCH
        go_wp2_with fail
        go_region_held3 (fun W => (W.cell? ⟨w.heap.size, 0, none⟩ = some (.int .i64 n) ∧ W.cell? ⟨w.heap.size, 1, none⟩ = some (.int .i64 m) ∧ W.cell? ⟨w.heap.size, 2, none⟩ = some (.slice sa k cap)) ∧ (W.cell? ⟨g', 0, none⟩ = some (.int .i64 s) ∧ W.cell? ⟨g', 1, none⟩ = some (.int .i64 f) ∧ W.cell? ⟨g', 2, none⟩ = some (.int .i64 t) ∧ W.cell? ⟨g', 3, none⟩ = some (.int .i64 e) ∧ W.cell? ⟨g', 4, none⟩ = some (.pointer q))) (go_keep)
          (first | (go_at_call 30; refine HEL.out.mono ?_; rintro _ w4 ⟨rfl, hb4⟩; have hb4' : Below wr.heap.size wr w4 := below_drew hb4 (by simp); obtain ⟨⟨b0, b1, b2⟩, x0, x1, x2, x3, x4⟩ := HS.out w4 hb4'))
        have hB4 := hB.trans (hb4'.mono hso)
        have s4 := hB4.size
        have ho := HO.out.below hb4'
        unfold Own at ho
        rw [lwL_length] at ho
        have HO4 := Lib.hid ho
        clear hb4 hb4' HS HEL ho HO b0 b1 b2 x0 x1 x2 x3 x4
        go_wp2_with (at_builtin; refine wpList_append_own _ rfl _ _ 25 rfl w2.heap.size 2 i0 (.int .i64 0) 1 8 Tryd.underlying25 HI.out HI0.out HI1.out HI2.out rfl (by decide) _ _ _ rfl (World.ownsRow.alloc HO4.out _) ⟨w4.heap.size, 0, none⟩ 1 1 [.int .i64 v'] rfl rfl (cell_one_new _ _ _) (by simp [Value.oneCell']) (by unfold maxLen; omega) (by omega) (by simp; omega) ?_; intro u' w5 hown5 hgr5 _; have HOW := Lib.hid hown5; have HGR := Lib.hid hgr5; have hB5 := (hB4.alloc s4 _).grown HGR.out (by simp; omega) (fun k e => (World.ownsRow.lt HO4.out k e).1); obtain ⟨⟨x0, x1, x2, x3, x4⟩, -⟩ := five_cells (HGC.out w5 hB5); clear hown5 hgr5)
        have HN5 : Hid (Own w5 w2.heap.size u' (lwL m fs zs r (i + 1))) := by
          show World.ownsRow _ _ _ _ _ _ _
          rw [lwL_length, HLN.out, List.map_append]
          exact HOW.out
        exact ⟨⟨i + 1, v', q, by omega, rfl, HV', HN5, rfl, HN, hB5⟩, by simpa [chM] using HM.out⟩
      · obtain rfl : i = K := by omega
        have ea : a = none := by
          have h := HCH.out
          rw [Nat.sub_self] at h
          injection h
        subst ea
        go_wp2_with fail
        go_ret2
        rw [HDL.out]
        exact ⟨⟨_, rfl, HO.out.base (by omega)⟩, HD.out.trans ((E2.trans (hB.mono e2)).mono HD.out.size)⟩
  · have HDL : Hid (D = []) := by show _ = _; rw [HDD.out, if_neg h0]
    clear HDD
    have hne2 : (C != 0) = true := by simpa using h0
    clear hch h0 HFA
    go_wp2_with fail
    go_ret2
    rw [HDL.out]
    exact ⟨⟨_, rfl, Own.nil _ _⟩, HD.out.trans (E2.mono HD.out.size)⟩

theorem implLw_any (n m r : Int) (v : Value) (k : Nat) (fs zs : List Int) (p : Option Addr) (c : Nat) (w : World) (hs : Sa w v k fs) (hk : k ≤ 9223372036854775807) (hz : Sl w (.slice p zs.length c) zs) (hc : zs.length ≤ c) (hl : zs.length ≤ 9223372036854775807) (hE : ErrW w) :
    Calls Tryd.prog 16 #[.agg #[.int .i64 n, .int .i64 m, v], .slice p zs.length c, .int .i64 r] w fun e w' => LResW w.heap.size (lwR n m k fs zs r) (lwC n m k fs zs r) e w' ∧ Below w.heap.size w w' := by
  cases hg : isB n m k fs with
  | false =>
    have e1 : lwC n m k fs zs r = 1 := by unfold lwC; rw [if_neg (by simp [hg])]; unfold wkC; rw [if_neg (by simp [hg])]
    rw [show lwR n m k fs zs r = [] by unfold lwR; rw [e1]; rfl, e1]
    exact (implLw_none n m r v k fs zs p c w hs hk hz hc hl hE hg).mono fun e w' ⟨he, hb⟩ => ⟨⟨_, he, Own.nil _ _⟩, hb⟩
  | true =>
    by_cases hn : zs.length = 0
    · have e1 : lwC n m k fs zs r = 2 := by unfold lwC; rw [if_pos (by simp [hg, hn])]
      rw [show lwR n m k fs zs r = [] by unfold lwR; rw [e1]; rfl, e1, hn]
      exact (implLw_bad1 n m r v k fs p c w hs hk hg).mono fun e w' ⟨he, hb⟩ => ⟨⟨_, he, Own.nil _ _⟩, hb⟩
    · cases hr : (decide (0 ≤ r) && decide (r < m)) with
      | false =>
        have e1 : lwC n m k fs zs r = 2 := by unfold lwC; rw [if_pos (by rw [hg, hr]; simp)]
        rw [show lwR n m k fs zs r = [] by unfold lwR; rw [e1]; rfl, e1]
        exact (implLw_bad2 n m r v k zs.length fs p c w hs hk hg (by omega) hr).mono fun e w' ⟨he, hb⟩ => ⟨⟨_, he, Own.nil _ _⟩, hb⟩
      | true =>
        have e1 : lwC n m k fs zs r = wkC n m k fs zs := by unfold lwC; rw [if_neg (by rw [hg, hr, decide_eq_false hn]; simp)]
        obtain ⟨N, M, rfl, rfl, h1, h2, h3, h4, _, h6, hav⟩ := isB_nats hg
        rw [Bool.and_eq_true, decide_eq_true_eq, decide_eq_true_eq] at hr
        obtain ⟨R, rfl⟩ : ∃ R : Nat, r = (R : Int) := ⟨r.toNat, by omega⟩
        have hf := hs.form
        obtain ⟨sa, cap, rfl⟩ : ∃ sa cap, v = .slice sa k cap := ⟨_, _, hf⟩
        rw [e1]
        exact implLw_in N M k cap R sa fs zs p c w hs hav ⟨h2, h4, h6⟩ hg hz hc hl hE (by omega) (by omega) _ rfl _ (by unfold lwR; rw [e1]; rfl)
end Go.Proofs.YthonkphjahomeaaDoor
