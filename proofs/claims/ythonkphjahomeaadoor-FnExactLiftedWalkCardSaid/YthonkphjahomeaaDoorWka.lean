/-
  spec.LiftedWalk, whatever comes in.
-/
import Derived.Test.YthonkphjahomeaaDoorWk8
import Derived.Test.YthonkphjahomeaaDoorWk9
namespace Go.Proofs.YthonkphjahomeaaDoor
set_option maxRecDepth 100000
open Go.RowKit

set_option maxHeartbeats 1600000 in
theorem specLw_none (n m r : Int) (v : Value) (k : Nat) (fs zs : List Int) (p : Option Addr) (c : Nat) (w : World) (hs : Sa w v k fs) (hk : k ≤ 9223372036854775807) (hz : Sl w (.slice p zs.length c) zs) (hl : zs.length ≤ 9223372036854775807) (h1 : wkC n m k fs zs = 1) :
    Calls Tryd.prog 15 #[.agg #[.int .i64 n, .int .i64 m, v], .slice p zs.length c, .int .i64 r] w fun e w' => e = .returned (.tuple #[.slice none 0 0, .int .i64 1]) ∧ Below w.heap.size w w' := by
  have D0 : Below w.heap.size w (w.alloc (.cells #[.int .i64 n, .int .i64 m, v] 31)) := (Below.refl _ _).alloc (Nat.le_refl _) _
  have hwk := l03Walk_any n m v k fs zs p c (w.alloc (.cells #[.int .i64 n, .int .i64 m, v] 31)) (hs.below D0) hk (hz.below D0) hl
  rw [h1] at hwk
  clear hs hz h1
  go_enter Tryd.func15, Tryd.ntmps15
  go_wp2_with (go_at_call 21; refine hwk.mono ?_; rintro e w1 ⟨rfl, hb1⟩)
  go_ret2
  exact ⟨rfl, D0.trans (hb1.mono (by simp))⟩

set_option maxHeartbeats 1600000 in
theorem specLw_bad (n m r : Int) (v : Value) (k K : Nat) (fs zs : List Int) (p : Option Addr) (c : Nat) (w : World) (hs : Sa w v k fs) (hk : k ≤ 9223372036854775807) (hz : Sl w (.slice p zs.length c) zs) (hl : zs.length ≤ 9223372036854775807) (hK : K = zs.length) (h1 : ¬ wkC n m k fs zs = 1) (hm : 0 ≤ m ∧ m ≤ 62) (q : Bool) (hq : (decide (0 ≤ r) && decide (r ≤ m - 1)) = q) (hbad : q = false ∨ K = 0) :
    Calls Tryd.prog 15 #[.agg #[.int .i64 n, .int .i64 m, v], .slice p K c, .int .i64 r] w fun e w' => e = .returned (.tuple #[.slice none 0 0, .int .i64 2]) ∧ Below w.heap.size w w' := by
  have D0 : Below w.heap.size w (w.alloc (.cells #[.int .i64 n, .int .i64 m, v] 31)) := (Below.refl _ _).alloc (Nat.le_refl _) _
  have HG0 := Lib.hid (World.alloc_heap_new w (.cells #[.int .i64 n, .int .i64 m, v] 31))
  obtain ⟨W0, hW0⟩ : ∃ W0, W0 = w.alloc (.cells #[.int .i64 n, .int .i64 m, v] 31) := ⟨_, rfl⟩
  have sz0 : w.heap.size + 1 ≤ W0.heap.size := by rw [hW0]; simp
  rw [← hW0] at HG0 D0
  have hwk := l03Walk_any n m v k fs zs p c W0 (hs.below D0) hk (hz.below D0) hl
  rw [← hK] at hwk
  obtain ⟨C, hC⟩ : ∃ C, C = wkC n m k fs zs := ⟨_, rfl⟩
  obtain ⟨S, hS⟩ : ∃ S, S = wsN n m k fs zs := ⟨_, rfl⟩
  rw [← hC, ← hS] at hwk
  rw [← hC] at h1
  have hne : (C == 1) = false := by simpa using h1
  have hin := fun W : World => in_val r 0 (m - 1) W q hq
  have g1 : IntKind.i64.wrap (m - 1) = m - 1 := IntWalk.i64_in _ (by omega)
  have HD := Lib.hid D0
  obtain ⟨⟨b0, b1, b2⟩, -⟩ := three_cells HG0.out
  clear hs hz hC hS h1 hK hq D0 hl
  rcases hbad with rfl | rfl
  · go_enter Tryd.func15, Tryd.ntmps15
    go_upto_region 1 with fail
    rw [← hW0]
    clear hW0
    go_wp2_with fail
    refine hwk.mono ?_
    rintro e w1 ⟨rfl, E1⟩
    obtain ⟨⟨b0, b1, b2⟩, -⟩ := three_cells ((E1.block w.heap.size (by omega)).trans HG0.out)
    clear hwk
    go_wp2_with fail
    refine (hin _).mono ?_
    rintro e w2 ⟨rfl, rfl⟩
    go_wp2_with fail
    go_ret2
    exact ⟨rfl, HD.out.trans (E1.mono HD.out.size)⟩
  · cases q with
    | false =>
      go_enter Tryd.func15, Tryd.ntmps15
      go_upto_region 1 with fail
      rw [← hW0]
      clear hW0
      go_wp2_with fail
      refine hwk.mono ?_
      rintro e w1 ⟨rfl, E1⟩
      obtain ⟨⟨b0, b1, b2⟩, -⟩ := three_cells ((E1.block w.heap.size (by omega)).trans HG0.out)
      clear hwk
      go_wp2_with fail
      refine (hin _).mono ?_
      rintro e w2 ⟨rfl, rfl⟩
      go_wp2_with fail
      go_ret2
      exact ⟨rfl, HD.out.trans (E1.mono HD.out.size)⟩
    | true =>
      go_enter Tryd.func15, Tryd.ntmps15
      go_upto_region 1 with fail
      rw [← hW0]
      clear hW0
      go_wp2_with fail
      refine hwk.mono ?_
      rintro e w1 ⟨rfl, E1⟩
      obtain ⟨⟨b0, b1, b2⟩, -⟩ := three_cells ((E1.block w.heap.size (by omega)).trans HG0.out)
      clear hwk
      go_wp2_with fail
      refine (hin _).mono ?_
      rintro e w2 ⟨rfl, rfl⟩
      go_wp2_with fail
      go_ret2
      exact ⟨rfl, HD.out.trans (E1.mono HD.out.size)⟩

set_option maxHeartbeats 6400000 in
theorem specLw_in (n m k cap r : Nat) (sa : Option Addr) (fs zs : List Int) (b off : Nat) (c : Nat) (w : World) (hs : Sa w (.slice sa k cap) k fs) (hav : AvOk n m k fs) (hnm : n ≤ 10 ∧ m ≤ 62 ∧ k ≤ 16) (hg : isB n m k fs = true) (hb : b < w.heap.size) (hcc : Cells w b off zs) (hl : zs.length ≤ 9223372036854775807) (h1 : 1 ≤ zs.length) (hr : r < m) (C : Int) (hC : wkC n m k fs zs = C) (D : List Int) (hD : D = if C = 0 then lwL m fs zs r zs.length else []) :
    Calls Tryd.prog 15 #[.agg #[.int .i64 n, .int .i64 m, .slice sa k cap], .slice (some ⟨b, off, none⟩) zs.length c, .int .i64 r] w fun e w' => LResW w.heap.size D C e w' ∧ Below w.heap.size w w' := by
  have D0 : Below w.heap.size w (w.alloc (.cells #[.int .i64 n, .int .i64 m, .slice sa k cap] 31)) := (Below.refl _ _).alloc (Nat.le_refl _) _
  have HG0 := Lib.hid (World.alloc_heap_new w (.cells #[.int .i64 n, .int .i64 m, .slice sa k cap] 31))
  obtain ⟨W0, hW0⟩ : ∃ W0, W0 = w.alloc (.cells #[.int .i64 n, .int .i64 m, .slice sa k cap] 31) := ⟨_, rfl⟩
  have sz0 : w.heap.size + 1 ≤ W0.heap.size := by rw [hW0]; simp
  rw [← hW0] at HG0 D0
  have hwk := l03Walk_any n m (.slice sa k cap) k fs zs (some ⟨b, off, none⟩) c W0 (hs.below D0) (by omega) (.inr ⟨b, off, c, rfl, Nat.lt_of_lt_of_le hb D0.size, hcc.below D0 hb⟩) hl
  obtain ⟨S, hS⟩ : ∃ S, S = wsN n m k fs zs := ⟨_, rfl⟩
  rw [hC, ← hS] at hwk
  have hC1 : ¬ C = 1 := by
    rw [← hC]; unfold wkC; rw [if_pos hg]
    split
    · split <;> decide
    · decide
  have hne1 : (C == 1) = false := by simpa using hC1
  have hin := fun W : World => in_val (r : Int) 0 ((m : Int) - 1) W true (by simp; omega)
  have g1 : IntKind.i64.wrap ((m : Int) - 1) = (m : Int) - 1 := IntWalk.i64_in _ (by omega)
  have HBX : Hid (∀ W, Below W0.heap.size W0 W → W.cell? ⟨w.heap.size, 0, none⟩ = some (.int .i64 n) ∧ W.cell? ⟨w.heap.size, 1, none⟩ = some (.int .i64 m) ∧ W.cell? ⟨w.heap.size, 2, none⟩ = some (.slice sa k cap)) := fun W h => (three_cells ((h.block w.heap.size (by omega)).trans HG0.out)).1
  have HFA : Hid (C = 0 → (∀ i, i < zs.length → stA m fs (sp zs i) 0 < n ∧ stA m fs (sp zs i) 1 < n ∧ stA m fs (sp zs i) 2 < m) ∧ (∀ i, i < zs.length → el zs i = (sp zs i : Nat) ∧ sp zs i < 2 * k) ∧ zs.length ≤ 14) := fun h => by
    obtain ⟨_, h14, hnb, _⟩ := wkS_parts (hC.trans h)
    exact ⟨fun i hi => stA_lt hav (nbTo_at hnb hi).2, fun i hi => nbTo_at hnb hi, h14⟩
  have HCZ : Hid (∀ W i, Below W0.heap.size W0 W → i < zs.length → W.cell? ⟨b, off + i, none⟩ = some (.int .i64 (el zs i))) := fun W i h hi => (hcc.below (D0.trans (h.mono D0.size)) hb) i hi
  obtain ⟨n2, m2, k16⟩ := hnm
  have HST : Hid (∀ (W1 : World) (x : Nat), Below w.heap.size w W1 → x < 2 * k → Calls Tryd.prog 25 #[.agg #[.int .i64 n, .int .i64 m, .slice sa k cap], .int .i64 x] W1 fun e w' => e = .returned (.tuple #[.int .i64 (stA m fs x 0), .int .i64 (stA m fs x 1), .int .i64 (stA m fs x 2)]) ∧ Below W1.heap.size W1 w') := fun W1 x h hx =>
    l03Step_any n m k cap x sa fs W1 (hs.below h) hav ⟨n2, m2, k16⟩ hx
  have HD := Lib.hid D0
  obtain ⟨b0, b1, b2⟩ := HBX.out W0 (Below.refl _ _)
  obtain ⟨i0, hi, hz0, hz1, hz2⟩ := info_parts mk_info
  have HI := Lib.hid hi; have HI0 := Lib.hid hz0; have HI1 := Lib.hid hz1; have HI2 := Lib.hid hz2
  obtain ⟨K, hK⟩ : ∃ K, K = zs.length := ⟨_, rfl⟩
  rw [← hK] at h1 hwk HFA HCZ hD ⊢
  have hne : ¬ ((K : Int) = 0) := by omega
  have hK1 : (0 : Int) < (K : Int) := by omega
  have hK2 : 0 < K := h1
  have HDD := Lib.hid hD
  clear hs hg hC D0 HG0 hav hi hz0 hz1 hz2 hl hK hD hC1 hcc hS
  go_enter Tryd.func15, Tryd.ntmps15
  go_upto_region 1 with fail
  rw [← hW0]
  clear hW0
  go_wp2_with fail
  refine hwk.mono ?_
  rintro e w1 ⟨rfl, E1⟩
  have e1 := E1.size
  obtain ⟨b0, b1, b2⟩ := HBX.out w1 E1
  clear hwk
  go_wp2_with fail
  refine (hin _).mono ?_
  rintro e w2 ⟨rfl, rfl⟩
  clear hin g1
  by_cases h0 : C = 0
  · have HDL : Hid (D = lwL m fs zs r K) := by show _ = _; rw [HDD.out, if_pos h0]
    clear HDD
    obtain ⟨HLT', HNA', h14⟩ := HFA.out h0
    have HLT := Lib.hid HLT'; have HNA := Lib.hid HNA'
    subst h0
    obtain ⟨x, hx⟩ : ∃ x, x = sp zs 0 := ⟨_, rfl⟩
    have hx2 : x < 2 * k := by rw [hx]; exact (HNA.out 0 hK2).2
    have HZ0 : Hid (∀ W, Below W0.heap.size W0 W → W.cell? ⟨b, off, none⟩ = some (.int .i64 x)) := fun W h => by have := HCZ.out W 0 h hK2; rw [(HNA.out 0 hK2).1] at this; rw [hx]; exact this
    have HS1 := Lib.hid (HST.out w1.drew x ((HD.out.trans (E1.mono HD.out.size)).drew) hx2)
    obtain ⟨f0, hf⟩ : ∃ f0, f0 = stA m fs x 0 := ⟨_, rfl⟩
    have hfn : f0 < n := by rw [hf, hx]; exact (HLT.out 0 hK2).1
    have hfm : f0 * m ≤ 10 * 62 := Nat.mul_le_mul (by omega) m2
    obtain ⟨y, hy⟩ : ∃ y, y = f0 * m := ⟨_, rfl⟩
    rw [← hf] at HS1
    rw [← hy] at hfm
    have k0 : (f0 : Int) * (m : Int) = (y : Int) := by rw [hy]; push_cast; rfl
    have k1 : IntKind.i64.wrap (y : Int) = (y : Int) := IntWalk.i64_in _ (by omega)
    have k2 : IntKind.i64.wrap ((y : Int) + r) = (y : Int) + r := IntWalk.i64_in _ (by omega)
    have HL0 : Hid (lwL m fs zs r 0 = [(y : Int) + r]) := by show _ = _; rw [lwL_zero, ← hx, ← hf, ← hy]; push_cast; rfl
    have HC1 : Hid (∀ W, Below w1.heap.size w1 W → (W.cell? ⟨w.heap.size, 0, none⟩ = some (.int .i64 n) ∧ W.cell? ⟨w.heap.size, 1, none⟩ = some (.int .i64 m) ∧ W.cell? ⟨w.heap.size, 2, none⟩ = some (.slice sa k cap)) ∧ W.cell? ⟨b, off, none⟩ = some (.int .i64 x)) := fun W h => ⟨HBX.out W (E1.trans (h.mono e1)), HZ0.out W (E1.trans (h.mono e1))⟩
    obtain ⟨⟨b0, b1, b2⟩, z0⟩ := HC1.out w1 (Below.refl _ _)
    clear HFA hx hf hy hfn
    go_wp2_with fail
    go_region_held3 (fun W => (W.cell? ⟨w.heap.size, 0, none⟩ = some (.int .i64 n) ∧ W.cell? ⟨w.heap.size, 1, none⟩ = some (.int .i64 m) ∧ W.cell? ⟨w.heap.size, 2, none⟩ = some (.slice sa k cap)) ∧ W.cell? ⟨b, off, none⟩ = some (.int .i64 x)) (go_keep) (first | (go_at_call 25; refine HS1.out.mono ?_; rintro e w2 ⟨rfl, hb2⟩; have hb2' : Below w1.heap.size w1 w2 := below_drew hb2 (by simp); obtain ⟨⟨b0, b1, b2⟩, z0⟩ := HC1.out w2 hb2'))
    have E2 := E1.trans (hb2'.mono e1)
    have e2 := E2.size
    clear hb2 hb2' HS1 HC1 z0 HZ0
    go_wp2_with fail
    have hnil : Hid (Own (w2.alloc (.cells #[.int .i64 ((y : Int) + r)] 2)) w2.heap.size (.slice (some ⟨w2.heap.size, 0, none⟩) 1 1) (lwL m fs zs r 0)) := by
      show Own _ _ _ _
      rw [HL0.out]
      exact Own.of_blk (Blk.new w2 [(y : Int) + r]) (Nat.le_refl _) (by unfold maxLen; simp)
    obtain ⟨w3, h3⟩ : ∃ w3, w3 = w2.alloc (.cells #[.int .i64 ((y : Int) + r)] 2) := ⟨_, rfl⟩
    have B3 : Below w2.heap.size w2 w3 := by rw [h3]; exact (Below.refl _ _).alloc (Nat.le_refl _) _
    rw [← h3] at hnil ⊢
    clear h3 b0 b1 b2 k0 k1 k2 hfm HL0
    go_loopw [2, 13, 14, 15, 16, 17] (fun rv uv iv _ _ _ wr => ∃ (i v : Nat), i ≤ K ∧ iv = .int .i64 i ∧ rv = .int .i64 v ∧ Hid (v = lwI m fs zs r i) ∧ Hid (Own wr w2.heap.size uv (lwL m fs zs r i)) ∧ Below w2.heap.size w2 wr) (fun _ _ iv _ _ _ _ => K - (intOf iv).toNat)
    case atStart => exact ⟨0, r, Nat.zero_le _, rfl, rfl, rfl, hnil, B3⟩
    case round =>
      clear hnil B3
      obtain ⟨i, v, hi, rfl, rfl, HV, HO, hB⟩ := hrel
      obtain ⟨b0, b1, b2⟩ := HBX.out wr (E2.trans (hB.mono e2))
      by_cases hlt : i < K
      · have hlti : (i : Int) < K := by omega
        have hi00 : (0 : Int) ≤ i := by omega
        obtain ⟨s, hs⟩ : ∃ s, s = sp zs i := ⟨_, rfl⟩
        obtain ⟨f, hf⟩ : ∃ f, f = stA m fs s 0 := ⟨_, rfl⟩
        obtain ⟨t, ht⟩ : ∃ t, t = stA m fs s 1 := ⟨_, rfl⟩
        obtain ⟨e, he⟩ : ∃ e, e = stA m fs s 2 := ⟨_, rfl⟩
        obtain ⟨v', hv'⟩ : ∃ v', v' = (v + e) % m := ⟨_, rfl⟩
        have hvm : v < m := by rw [HV.out]; exact lwI_lt fs zs hr i
        have hv'm : v' < m := by rw [hv']; exact Nat.mod_lt _ (by omega)
        have HV' : Hid (v' = lwI m fs zs r (i + 1)) := by show _ = _; rw [lwI, ← HV.out, ← hs, ← he, hv']
        obtain ⟨-, ht2, he2⟩ := HLT.out i hlt
        rw [← hs, ← ht] at ht2
        rw [← hs, ← he] at he2
        have htm : t * m ≤ 10 * 62 := Nat.mul_le_mul (by omega) m2
        obtain ⟨y', hy'⟩ : ∃ y', y' = t * m := ⟨_, rfl⟩
        rw [← hy'] at htm
        have HLN : Hid (lwL m fs zs r (i + 1) = lwL m fs zs r i ++ [(y' : Int) + v']) := by show _ = _; rw [lwL_succ, lwV, ← hs, ← ht, ← hy', ← HV'.out]; push_cast; rfl
        have k0 : (t : Int) * (m : Int) = (y' : Int) := by rw [hy']; push_cast; rfl
        have k1 : IntKind.i64.wrap (y' : Int) = (y' : Int) := IntWalk.i64_in _ (by omega)
        have k2 : IntKind.i64.wrap ((y' : Int) + v') = (y' : Int) + v' := IntWalk.i64_in _ (by omega)
        have k3 : IntKind.i64.wrap ((v : Int) + e) = (v : Int) + e := IntWalk.i64_in _ (by omega)
        have k4 : IntKind.i64.wrap (v' : Int) = (v' : Int) := IntWalk.i64_in _ (by omega)
        have k5 : IntKind.i64.wrap ((i : Int) + 1) = (i : Int) + 1 := IntWalk.i64_in _ (by omega)
        have tm : Int.tmod ((v : Int) + e) (m : Int) = (v' : Int) := by rw [hv']; rfl
        have hm0 : ¬ m = 0 := by omega
        have hs2 : s < 2 * k := by rw [hs]; exact (HNA.out i hlt).2
        have hso := hB.size
        have HSi := Lib.hid (HST.out wr.drew s ((HD.out.trans ((E2.trans (hB.mono e2)).mono HD.out.size)).drew) hs2)
        rw [← hf, ← ht, ← he] at HSi
        have HCi : Hid (∀ W, Below wr.heap.size wr W → (W.cell? ⟨w.heap.size, 0, none⟩ = some (.int .i64 n) ∧ W.cell? ⟨w.heap.size, 1, none⟩ = some (.int .i64 m) ∧ W.cell? ⟨w.heap.size, 2, none⟩ = some (.slice sa k cap)) ∧ W.cell? ⟨b, off + i, none⟩ = some (.int .i64 s)) := fun W h => by
          have hh := E2.trans ((hB.trans (h.mono hso)).mono e2)
          refine ⟨HBX.out W hh, ?_⟩
          rw [hs, ← (HNA.out i hlt).1]
          exact HCZ.out W i hh hlt
        obtain ⟨⟨b0, b1, b2⟩, z0⟩ := HCi.out wr (Below.refl _ _)
        clear hs hf ht he hv' hy' HV
        go_wp2_with fail
        go_region_held3 (fun W => (W.cell? ⟨w.heap.size, 0, none⟩ = some (.int .i64 n) ∧ W.cell? ⟨w.heap.size, 1, none⟩ = some (.int .i64 m) ∧ W.cell? ⟨w.heap.size, 2, none⟩ = some (.slice sa k cap)) ∧ W.cell? ⟨b, off + i, none⟩ = some (.int .i64 s)) (go_keep) (first | (go_at_call 25; refine HSi.out.mono ?_; rintro _ w4 ⟨rfl, hb4⟩; have hb4' : Below wr.heap.size wr w4 := below_drew hb4 (by simp); obtain ⟨⟨b0, b1, b2⟩, z0⟩ := HCi.out w4 hb4'))
        have hB4 := hB.trans (hb4'.mono hso)
        have s4 := hB4.size
        have ho := HO.out.below hb4'
        unfold Own at ho
        rw [lwL_length] at ho
        have HO4 := Lib.hid ho
        clear hb4 hb4' HSi HCi ho HO z0
        go_wp2_with (at_builtin; refine wpList_append_own _ rfl _ _ 25 rfl w2.heap.size 2 i0 (.int .i64 0) 1 8 Tryd.underlying25 HI.out HI0.out HI1.out HI2.out rfl (by decide) _ _ _ rfl (World.ownsRow.alloc HO4.out _) ⟨w4.heap.size, 0, none⟩ 1 1 [.int .i64 ((y' : Int) + v')] rfl rfl (cell_one_new _ _ _) (by simp [Value.oneCell']) (by unfold maxLen; omega) (by omega) (by simp; omega) ?_; intro u' w5 hown5 hgr5 _; have HOW := Lib.hid hown5; have HGR := Lib.hid hgr5; clear hown5 hgr5)
        have hB5 := (hB4.alloc s4 _).grown HGR.out (by simp; omega) (fun k e => (World.ownsRow.lt HO4.out k e).1)
        have HN5 : Hid (Own w5 w2.heap.size u' (lwL m fs zs r (i + 1))) := by
          show World.ownsRow _ _ _ _ _ _ _
          rw [lwL_length, HLN.out, List.map_append]
          exact HOW.out
        exact ⟨⟨i + 1, v', by omega, by push_cast; rfl, rfl, HV', HN5, hB5⟩, by simp [intOf]; omega⟩
      · obtain rfl : i = K := by omega
        go_wp2_with fail
        go_ret2
        rw [HDL.out]
        exact ⟨⟨_, rfl, HO.out.base (by omega)⟩, HD.out.trans ((E2.trans (hB.mono e2)).mono HD.out.size)⟩
  · have HDL : Hid (D = []) := by show _ = _; rw [HDD.out, if_neg h0]
    clear HDD
    have hne2 : (C != 0) = true := by simpa using h0
    clear h0 HFA
    go_wp2_with fail
    go_ret2
    rw [HDL.out]
    exact ⟨⟨_, rfl, Own.nil _ _⟩, HD.out.trans (E1.mono HD.out.size)⟩

theorem specLw_any (n m r : Int) (v : Value) (k : Nat) (fs zs : List Int) (p : Option Addr) (c : Nat) (w : World) (hs : Sa w v k fs) (hk : k ≤ 9223372036854775807) (hz : Sl w (.slice p zs.length c) zs) (hl : zs.length ≤ 9223372036854775807) :
    Calls Tryd.prog 15 #[.agg #[.int .i64 n, .int .i64 m, v], .slice p zs.length c, .int .i64 r] w fun e w' => LResW w.heap.size (lwR n m k fs zs r) (lwC n m k fs zs r) e w' ∧ Below w.heap.size w w' := by
  cases hg : isB n m k fs with
  | false =>
    have e0 : wkC n m k fs zs = 1 := by unfold wkC; rw [if_neg (by simp [hg])]
    have e1 : lwC n m k fs zs r = 1 := by unfold lwC; rw [if_neg (by simp [hg]), e0]
    rw [show lwR n m k fs zs r = [] by unfold lwR; rw [e1]; rfl, e1]
    exact (specLw_none n m r v k fs zs p c w hs hk hz hl e0).mono fun e w' ⟨he, hb⟩ => ⟨⟨_, he, Own.nil _ _⟩, hb⟩
  | true =>
    obtain ⟨N, M, rfl, rfl, h1, h2, h3, h4, _, h6, hav⟩ := isB_nats hg
    have hn1 : ¬ wkC N M k fs zs = 1 := by
      unfold wkC; rw [if_pos hg]
      split
      · split <;> decide
      · decide
    obtain ⟨q, hq⟩ : ∃ q, (decide (0 ≤ r) && decide (r ≤ (M : Int) - 1)) = q := ⟨_, rfl⟩
    have hqe : (decide (0 ≤ r) && decide (r < (M : Int))) = q := by
      rw [← hq]; congr 1; rw [decide_eq_decide]; omega
    by_cases hbad : q = false ∨ zs.length = 0
    · have e1 : lwC N M k fs zs r = 2 := by
        unfold lwC
        rw [hqe]
        rcases hbad with h | h
        · rw [if_pos (by rw [hg, h]; simp)]
        · rw [if_pos (by rw [hg, decide_eq_true h]; simp)]
      rw [show lwR N M k fs zs r = [] by unfold lwR; rw [e1]; rfl, e1]
      exact (specLw_bad N M r v k zs.length fs zs p c w hs hk hz hl rfl hn1 ⟨by omega, by omega⟩ q hq hbad).mono fun e w' ⟨he, hb⟩ => ⟨⟨_, he, Own.nil _ _⟩, hb⟩
    · have hq1 : q = true := by cases q with | true => rfl | false => exact absurd (.inl rfl) hbad
      have hn : ¬ zs.length = 0 := fun e => hbad (.inr e)
      have e1 : lwC N M k fs zs r = wkC N M k fs zs := by unfold lwC; rw [if_neg (by rw [hqe, hg, hq1, decide_eq_false hn]; simp)]
      rw [hq1, Bool.and_eq_true, decide_eq_true_eq, decide_eq_true_eq] at hqe
      obtain ⟨R, rfl⟩ : ∃ R : Nat, r = (R : Int) := ⟨r.toNat, by omega⟩
      have hf := hs.form
      obtain ⟨sa, cap, rfl⟩ : ∃ sa cap, v = .slice sa k cap := ⟨_, _, hf⟩
      obtain ⟨b, off, rfl, hb, hcc⟩ : ∃ b off, p = some ⟨b, off, none⟩ ∧ b < w.heap.size ∧ Cells w b off zs := by
        rcases hz with ⟨_, _, e, rfl⟩ | ⟨b, off, _, e, h1, h2⟩
        · simp at hn
        · injection e with e1 _ _
          exact ⟨b, off, e1, h1, h2⟩
      rw [e1]
      exact specLw_in N M k cap R sa fs zs b off c w hs hav ⟨h2, h4, h6⟩ hg hb hcc hl (by omega) (by omega) _ rfl _ (by unfold lwR; rw [e1]; rfl)
end Go.Proofs.YthonkphjahomeaaDoor
