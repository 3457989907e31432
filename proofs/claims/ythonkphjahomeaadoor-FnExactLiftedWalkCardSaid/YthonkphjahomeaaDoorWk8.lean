/-
  spec.IsReducedWalk, whatever comes in.
-/
import Derived.Test.YthonkphjahomeaaDoorWk5
namespace Go.Proofs.YthonkphjahomeaaDoor
set_option maxRecDepth 100000
open Go.RowKit

/-- What holds of a walk. -/
theorem wkS_parts {n m : Int} {k : Nat} {fs zs : List Int} (h : wkC n m k fs zs = 0) : isB n m k fs = true ∧ zs.length ≤ 14 ∧ nbTo k zs zs.length = true ∧ isW m.toNat fs zs = true := by
  unfold wkC at h
  split at h
  · next h1 =>
    split at h
    · next h2 =>
      split at h
      · next h3 =>
        rw [Bool.and_eq_true, decide_eq_true_eq] at h2
        exact ⟨h1, h2.1, h2.2, h3⟩
      · exact absurd h (by decide)
    · exact absurd h (by decide)
  · exact absurd h (by decide)
theorem flp_int (s : Nat) : (s : Int) + 1 - 2 * ((s % 2 : Nat) : Int) = ((flp s : Nat) : Int) := by
  unfold flp
  split <;> omega

set_option maxHeartbeats 1600000 in
theorem specRw_no (n m : Int) (v : Value) (k : Nat) (fs zs : List Int) (p : Option Addr) (c : Nat) (w : World) (hs : Sa w v k fs) (hk : k ≤ 9223372036854775807) (hz : Sl w (.slice p zs.length c) zs) (hl : zs.length ≤ 9223372036854775807) (h0 : ¬ wkC n m k fs zs = 0) :
    Calls Tryd.prog 13 #[.agg #[.int .i64 n, .int .i64 m, v], .slice p zs.length c] w fun e w' => e = .returned (.tuple #[.bool false, .int .i64 (wkC n m k fs zs)]) ∧ Below w.heap.size w w' := by
  have D0 : Below w.heap.size w (w.alloc (.cells #[.int .i64 n, .int .i64 m, v] 31)) := (Below.refl _ _).alloc (Nat.le_refl _) _
  have hwk := l03Walk_any n m v k fs zs p c (w.alloc (.cells #[.int .i64 n, .int .i64 m, v] 31)) (hs.below D0) hk (hz.below D0) hl
  obtain ⟨C, hC⟩ : ∃ C, C = wkC n m k fs zs := ⟨_, rfl⟩
  rw [← hC] at hwk h0 ⊢
  have hne : (C != 0) = true := by simpa using h0
  clear hs hz hC h0
  go_enter Tryd.func13, Tryd.ntmps13
  go_wp2_with (go_at_call 21; refine hwk.mono ?_; rintro e w1 ⟨rfl, hb1⟩)
  go_ret2
  exact ⟨rfl, D0.trans (hb1.mono (by simp))⟩

set_option maxHeartbeats 1600000 in
theorem specRw_nil (n m : Int) (v : Value) (k : Nat) (fs : List Int) (p : Option Addr) (c : Nat) (w : World) (hs : Sa w v k fs) (hk : k ≤ 9223372036854775807) (hz : Sl w (.slice p 0 c) []) (h0 : wkC n m k fs [] = 0) :
    Calls Tryd.prog 13 #[.agg #[.int .i64 n, .int .i64 m, v], .slice p 0 c] w fun e w' => e = .returned (.tuple #[.bool true, .int .i64 0]) ∧ Below w.heap.size w w' := by
  have D0 : Below w.heap.size w (w.alloc (.cells #[.int .i64 n, .int .i64 m, v] 31)) := (Below.refl _ _).alloc (Nat.le_refl _) _
  have hwk := l03Walk_any n m v k fs [] p c (w.alloc (.cells #[.int .i64 n, .int .i64 m, v] 31)) (hs.below D0) hk (hz.below D0) (by simp)
  rw [h0] at hwk
  clear hs hz h0
  go_enter Tryd.func13, Tryd.ntmps13
  go_wp2_with (go_at_call 21; refine hwk.mono ?_; rintro e w1 ⟨rfl, hb1⟩)
  go_ret2
  exact ⟨rfl, D0.trans (hb1.mono (by simp))⟩

set_option maxHeartbeats 6400000 in
theorem specRw_yes (n m k cap : Nat) (sa : Option Addr) (fs zs : List Int) (b off : Nat) (c : Nat) (w : World) (hs : Sa w (.slice sa k cap) k fs) (hav : AvOk n m k fs) (hnm : n ≤ 10 ∧ m ≤ 62 ∧ k ≤ 16) (hb : b < w.heap.size) (hcc : Cells w b off zs) (h1 : 1 ≤ zs.length) (h0 : wkC n m k fs zs = 0) (r : Bool) (hr : r = redTo m fs zs zs.length zs.length) :
    Calls Tryd.prog 13 #[.agg #[.int .i64 n, .int .i64 m, .slice sa k cap], .slice (some ⟨b, off, none⟩) zs.length c] w fun e w' => e = .returned (.tuple #[.bool r, .int .i64 0]) ∧ Below w.heap.size w w' := by
  obtain ⟨-, h14, hnb, hw⟩ := wkS_parts h0
  rw [Int.toNat_natCast] at hw
  rw [red_eq h1 ((isW_iff _ _ _).1 hw)] at hr
  obtain ⟨n2, m2, k16⟩ := hnm
  have D0 : Below w.heap.size w (w.alloc (.cells #[.int .i64 n, .int .i64 m, .slice sa k cap] 31)) := (Below.refl _ _).alloc (Nat.le_refl _) _
  have HG0 := Lib.hid (World.alloc_heap_new w (.cells #[.int .i64 n, .int .i64 m, .slice sa k cap] 31))
  obtain ⟨W0, hW0⟩ : ∃ W0, W0 = w.alloc (.cells #[.int .i64 n, .int .i64 m, .slice sa k cap] 31) := ⟨_, rfl⟩
  have sz0 : w.heap.size + 1 ≤ W0.heap.size := by rw [hW0]; simp
  rw [← hW0] at HG0 D0
  have hwk := l03Walk_any n m (.slice sa k cap) k fs zs (some ⟨b, off, none⟩) c W0 (hs.below D0) (by omega) (.inr ⟨b, off, c, rfl, Nat.lt_of_lt_of_le hb D0.size, hcc.below D0 hb⟩) (by omega)
  rw [h0] at hwk
  have HST : Hid (∀ (W1 : World) (x : Nat), Below w.heap.size w W1 → x < 2 * k → Calls Tryd.prog 25 #[.agg #[.int .i64 n, .int .i64 m, .slice sa k cap], .int .i64 x] W1 fun e w' => e = .returned (.tuple #[.int .i64 (stA m fs x 0), .int .i64 (stA m fs x 1), .int .i64 (stA m fs x 2)]) ∧ Below W1.heap.size W1 w') := fun W1 x h hx =>
    l03Step_any n m k cap x sa fs W1 (hs.below h) hav ⟨n2, m2, k16⟩ hx
  have HNA : Hid (∀ i, i < zs.length → el zs i = (sp zs i : Nat) ∧ sp zs i < 2 * k) := fun i hi => nbTo_at hnb hi
  have HBX : Hid (∀ W, Below W0.heap.size W0 W → W.cell? ⟨w.heap.size, 0, none⟩ = some (.int .i64 n) ∧ W.cell? ⟨w.heap.size, 1, none⟩ = some (.int .i64 m) ∧ W.cell? ⟨w.heap.size, 2, none⟩ = some (.slice sa k cap)) := fun W h => (three_cells ((h.block w.heap.size (by omega)).trans HG0.out)).1
  have HCZ : Hid (∀ W i, Below W0.heap.size W0 W → i < zs.length → W.cell? ⟨b, off + i, none⟩ = some (.int .i64 (sp zs i : Nat))) := fun W i h hi => by
    rw [← (nbTo_at hnb hi).1]
    exact (hcc.below (D0.trans (h.mono D0.size)) hb) i hi
  have HR := Lib.hid hr
  have HD := Lib.hid D0
  obtain ⟨b0, b1, b2⟩ := HBX.out W0 (Below.refl _ _)
  obtain ⟨K, hK⟩ : ∃ K, K = zs.length := ⟨_, rfl⟩
  rw [← hK] at h1 h14 HNA HCZ HR hwk ⊢
  clear hs hav hcc h0 hr hnb hw D0 HG0 hK
  go_enter Tryd.func13, Tryd.ntmps13
  go_upto_region 1 with fail
  rw [← hW0]
  clear hW0
  have hK0 : ¬ ((K : Int) = 0) := by omega
  have hK1 : (0 : Int) < (K : Int) := by omega
  have hK2 : 0 < K := h1
  go_wp2_with (go_at_call 21; refine hwk.mono ?_; rintro e w1 ⟨rfl, E1⟩)
  clear hwk b0 b1 b2
  obtain ⟨x, hx⟩ : ∃ x, x = sp zs 0 := ⟨_, rfl⟩
  obtain ⟨y, hy⟩ : ∃ y, y = sp zs (K - 1) := ⟨_, rfl⟩
  obtain ⟨L, hL⟩ : ∃ L, L = K - 1 := ⟨_, rfl⟩
  have e1 := E1.size
  have HZw2 : Hid (∀ W, Below W0.heap.size W0 W → W.cell? ⟨b, off, none⟩ = some (.int .i64 x)) := fun W h => by have := HCZ.out W 0 h (by omega); rw [hx]; exact this
  have HZw3 : Hid (∀ W, Below W0.heap.size W0 W → W.cell? ⟨b, off + L, none⟩ = some (.int .i64 y)) := fun W h => by rw [hy, hL]; exact HCZ.out W (K - 1) h (by omega)
  have hx2 : x < 2 * k := by rw [hx]; exact (HNA.out 0 (by omega)).2
  have hy2 : y < 2 * k := by rw [hy]; exact (HNA.out (K - 1) (by omega)).2
  have HSTw2 := Lib.hid (HST.out w1.drew x ((HD.out.trans (E1.mono HD.out.size)).drew) hx2)
  have g1 : IntKind.i64.wrap ((K : Int) - 1) = (L : Int) := by rw [IntWalk.i64_in _ (by omega)]; omega
  have hLK : (L : Int) < K := by omega
  have hL0 : (0 : Int) ≤ L := by omega
  obtain ⟨f0, hf0⟩ : ∃ f, f = stA m fs x 0 := ⟨_, rfl⟩
  obtain ⟨t1, ht1⟩ : ∃ t, t = stA m fs y 1 := ⟨_, rfl⟩
  rw [← hf0] at HSTw2
  obtain ⟨g0, hg0⟩ : ∃ g, g = clS m fs zs K := ⟨_, rfl⟩
  have HG : Hid (g0 = (f0 == t1)) := by show _ = _; rw [hg0, hf0, ht1, hx, hy]; rfl
  have HGD : Hid (gdTo m fs zs K 0 = g0) := by show _ = _; rw [gdTo_zero, hg0]
  clear hx hy hL hf0 hg0
  have HCw2 : Hid (∀ W, Below w1.heap.size w1 W → (W.cell? ⟨w.heap.size, 0, none⟩ = some (.int .i64 n) ∧ W.cell? ⟨w.heap.size, 1, none⟩ = some (.int .i64 m) ∧ W.cell? ⟨w.heap.size, 2, none⟩ = some (.slice sa k cap)) ∧ W.cell? ⟨b, off, none⟩ = some (.int .i64 x)) := fun W h => ⟨HBX.out W (E1.trans (h.mono E1.size)), HZw2.out W (E1.trans (h.mono E1.size))⟩
  obtain ⟨⟨b0, b1, b2⟩, z0⟩ := HCw2.out w1 (Below.refl _ _)
  go_wp2_with fail
  go_region_held3 (fun W => (W.cell? ⟨w.heap.size, 0, none⟩ = some (.int .i64 n) ∧ W.cell? ⟨w.heap.size, 1, none⟩ = some (.int .i64 m) ∧ W.cell? ⟨w.heap.size, 2, none⟩ = some (.slice sa k cap)) ∧ W.cell? ⟨b, off, none⟩ = some (.int .i64 x)) (go_keep) (first | (go_at_call 25; refine HSTw2.out.mono ?_; rintro e w2 ⟨rfl, hbw2⟩; have hbw2' : Below w1.heap.size w1 w2 := below_drew hbw2 (by simp); obtain ⟨⟨b0, b1, b2⟩, z0⟩ := HCw2.out w2 hbw2'))
  have E2 := E1.trans (hbw2'.mono e1)
  have e2 := E2.size
  have HSTw3 := Lib.hid (HST.out w2.drew y ((HD.out.trans (E2.mono HD.out.size)).drew) hy2)
  rw [← ht1] at HSTw3
  clear hbw2 hbw2' b0 b1 b2 z0 HCw2 HSTw2 HZw2 ht1
  have HCw3 : Hid (∀ W, Below w2.heap.size w2 W → (W.cell? ⟨w.heap.size, 0, none⟩ = some (.int .i64 n) ∧ W.cell? ⟨w.heap.size, 1, none⟩ = some (.int .i64 m) ∧ W.cell? ⟨w.heap.size, 2, none⟩ = some (.slice sa k cap)) ∧ W.cell? ⟨b, off + L, none⟩ = some (.int .i64 y)) := fun W h => ⟨HBX.out W (E2.trans (h.mono E2.size)), HZw3.out W (E2.trans (h.mono E2.size))⟩
  obtain ⟨⟨b0, b1, b2⟩, z0⟩ := HCw3.out w2 (Below.refl _ _)
  go_wp2_with fail
  go_region_held3 (fun W => (W.cell? ⟨w.heap.size, 0, none⟩ = some (.int .i64 n) ∧ W.cell? ⟨w.heap.size, 1, none⟩ = some (.int .i64 m) ∧ W.cell? ⟨w.heap.size, 2, none⟩ = some (.slice sa k cap)) ∧ W.cell? ⟨b, off + L, none⟩ = some (.int .i64 y)) (go_keep) (first | (go_at_call 25; refine HSTw3.out.mono ?_; rintro e w3 ⟨rfl, hbw3⟩; have hbw3' : Below w2.heap.size w2 w3 := below_drew hbw3 (by simp); obtain ⟨⟨b0, b1, b2⟩, z0⟩ := HCw3.out w3 hbw3'))
  have E3 := E2.trans (hbw3'.mono e2)
  have e3 := E3.size
  clear hbw3 hbw3' b0 b1 b2 z0 HCw3 HSTw3 HZw3 HST HBX
  have hgg : ((f0 : Int) == (t1 : Int)) = g0 := by
    rw [HG.out]
    by_cases e : f0 = t1
    · simp [e]
    · have e' : ¬ ((f0 : Int) = t1) := by omega
      rw [beq_eq_false_iff_ne.2 e, beq_eq_false_iff_ne.2 e']
  clear HG
  go_wp2_with fail
  go_loopw [15, 16] (fun gv iv wr => ∃ (i : Nat) (g : Bool), i ≤ K ∧ iv = .int .i64 i ∧ gv = .bool g ∧ Hid (g = gdTo m fs zs K i) ∧ Below w3.heap.size w3 wr) (fun _ iv _ => K - (intOf iv).toNat)
  case atStart => exact ⟨0, g0, Nat.zero_le _, rfl, rfl, HGD.out.symm, Below.refl _ _⟩
  case round =>
    obtain ⟨i, g, hi, rfl, rfl, HGI, hB⟩ := hrel
    by_cases hlt : i < K
    · have hlti : (i : Int) < K := by omega
      have hi0 : (0 : Int) ≤ i := by omega
      obtain ⟨j, hj⟩ : ∃ j, j = nxW K i := ⟨_, rfl⟩
      have hjl : j < K := by rw [hj]; exact nxW_lt hlt
      have hjli : (j : Int) < K := by omega
      have hj0 : (0 : Int) ≤ j := by omega
      have zi := HCZ.out wr i (E3.trans (hB.mono e3)) hlt
      have zj := HCZ.out wr j (E3.trans (hB.mono e3)) hjl
      obtain ⟨s, hs⟩ : ∃ s, s = sp zs i := ⟨_, rfl⟩
      obtain ⟨t, ht⟩ : ∃ t, t = sp zs j := ⟨_, rfl⟩
      have hs2 : s < 2 * k := by rw [hs]; exact (HNA.out i hlt).2
      rw [← hs] at zi
      rw [← ht] at zj
      obtain ⟨q, hq⟩ : ∃ q, q = s % 2 := ⟨_, rfl⟩
      have hq2 : q < 2 := by omega
      have tm : Int.tmod ((i : Int) + 1) (K : Int) = (j : Int) := by rw [hj, ← nxW_mod hlt]; rfl
      have tq : Int.tmod (s : Int) 2 = (q : Int) := by rw [hq]; rfl
      have k1 : IntKind.i64.wrap ((i : Int) + 1) = (i : Int) + 1 := IntWalk.i64_in _ (by omega)
      have k2 : IntKind.i64.wrap (j : Int) = (j : Int) := IntWalk.i64_in _ (by omega)
      have k3 : IntKind.i64.wrap (q : Int) = (q : Int) := IntWalk.i64_in _ (by omega)
      have k4 : IntKind.i64.wrap (2 * (q : Int)) = 2 * (q : Int) := IntWalk.i64_in _ (by omega)
      have k5 : IntKind.i64.wrap ((s : Int) + 1) = (s : Int) + 1 := IntWalk.i64_in _ (by omega)
      have k6 : IntKind.i64.wrap ((s : Int) + 1 - 2 * (q : Int)) = ((flp s : Nat) : Int) := by rw [IntWalk.i64_in _ (by omega), hq]; exact flp_int s
      obtain ⟨f, hf⟩ : ∃ f, f = flp s := ⟨_, rfl⟩
      rw [← hf] at k6
      obtain ⟨g', hg'⟩ : ∃ g', g' = (t != f) := ⟨_, rfl⟩
      have htf : ((t : Int) != (f : Int)) = g' := by
        rw [hg']
        by_cases e : t = f
        · simp [e]
        · have e' : ¬ ((t : Int) = f) := by omega
          rw [bne_iff_ne.2 e, bne_iff_ne.2 e']
      have HGN : Hid ((g && g') = gdTo m fs zs K (i + 1)) := by show _ = _; rw [gdTo_succ, ← HGI.out, hg', hf, hs, ht, hj]
      have hB' := fun q => drewN_below hB q
      clear hj hs ht hq hf hg' hB HGI
      cases g with
      | true =>
        have HG1 : Hid (g' = gdTo m fs zs K (i + 1)) := HGN.out
        clear HGN
        go_wp2_with fail
        go_quiet (fail)
        go_wp2_with fail
        exact ⟨⟨i + 1, g', by omega, by push_cast; rfl, rfl, HG1, hB' _⟩, by simp [intOf]; omega⟩
      | false =>
        have HG1 : Hid (false = gdTo m fs zs K (i + 1)) := HGN.out
        clear HGN
        go_wp2_with fail
        go_quiet (fail)
        go_wp2_with fail
        exact ⟨⟨i + 1, false, by omega, by push_cast; rfl, rfl, HG1, hB' _⟩, by simp [intOf]; omega⟩
    · obtain rfl : i = K := by omega
      have HRR : Hid (g = r) := by rw [HR.out]; exact HGI.out
      go_wp2_with fail
      go_ret2
      rw [HRR.out]
      exact ⟨rfl, HD.out.trans ((E3.trans (hB.mono e3)).mono HD.out.size)⟩

theorem specRw_any (n m : Int) (v : Value) (k : Nat) (fs zs : List Int) (p : Option Addr) (c : Nat) (w : World) (hs : Sa w v k fs) (hk : k ≤ 9223372036854775807) (hz : Sl w (.slice p zs.length c) zs) (hl : zs.length ≤ 9223372036854775807) :
    Calls Tryd.prog 13 #[.agg #[.int .i64 n, .int .i64 m, v], .slice p zs.length c] w fun e w' => e = .returned (.tuple #[.bool (rwB n m k fs zs), .int .i64 (wkC n m k fs zs)]) ∧ Below w.heap.size w w' := by
  by_cases h0 : wkC n m k fs zs = 0
  · have er : rwB n m k fs zs = redTo m.toNat fs zs zs.length zs.length := by unfold rwB; rw [decide_eq_true h0]; rfl
    by_cases hn : zs = []
    · subst hn
      rw [er, h0]
      exact specRw_nil n m v k fs p c w hs hk hz h0
    · obtain ⟨N, M, rfl, rfl, h1, h2, h3, h4, _, h6, hav⟩ := isB_nats (wkS_parts h0).1
      have hf := hs.form
      obtain ⟨sa, cap, rfl⟩ : ∃ sa cap, v = .slice sa k cap := ⟨_, _, hf⟩
      have hpos : 1 ≤ zs.length := Nat.one_le_iff_ne_zero.2 fun e => hn (List.eq_nil_of_length_eq_zero e)
      obtain ⟨b, off, rfl, hb, hcc⟩ : ∃ b off, p = some ⟨b, off, none⟩ ∧ b < w.heap.size ∧ Cells w b off zs := by
        rcases hz with ⟨_, _, e, rfl⟩ | ⟨b, off, _, e, h1, h2⟩
        · exact absurd rfl hn
        · injection e with e1 _ _
          exact ⟨b, off, e1, h1, h2⟩
      have h := specRw_yes N M k cap sa fs zs b off c w hs hav ⟨h2, h4, h6⟩ hb hcc hpos h0 (rwB N M k fs zs) er
      rw [h0]; exact h
  · rw [show rwB n m k fs zs = false by unfold rwB; rw [decide_eq_false h0]; rfl]
    exact specRw_no n m v k fs zs p c w hs hk hz hl h0
end Go.Proofs.YthonkphjahomeaaDoor
