/-
  impl.arcStep.mayPrecede; impl.IsReducedWalk, whatever comes in.
-/
import Derived.Test.YthonkphjahomeaaDoorWk6
namespace Go.Proofs.YthonkphjahomeaaDoor
set_option maxRecDepth 100000
open Go.RowKit

theorem xor_one : ∀ t, t < 32 → bits BinOp.xor IntKind.i64 ((t : Nat) : Int) 1 = ((flp t : Nat) : Int) := by decide +kernel

set_option maxHeartbeats 1600000 in
theorem mayP_any (s a0 a1 a2 t c0 c1 c2 : Nat) (w : World) (ht : t < 32) (r : Bool) (hr : r = ((a1 == c0) && (s != flp t))) :
    Calls Tryd.prog 26 #[.agg #[.int .i64 s, .int .i64 a0, .int .i64 a1, .int .i64 a2], .agg #[.int .i64 t, .int .i64 c0, .int .i64 c1, .int .i64 c2]] w fun e w' => e = .returned (.bool r) ∧ Below w.heap.size w w' := by
  obtain ⟨W, hW⟩ : ∃ W, W = ((w.alloc (.cells #[.int .i64 s, .int .i64 a0, .int .i64 a1, .int .i64 a2] 52)).alloc (.cells #[.int .i64 t, .int .i64 c0, .int .i64 c1, .int .i64 c2] 52)) := ⟨_, rfl⟩
  have D0 : Below w.heap.size w W := by rw [hW]; exact ((Below.refl _ _).alloc (Nat.le_refl _) _).alloc (by simp) _
  have XA : Hid (W.heap[w.heap.size]? = some (.cells #[.int .i64 s, .int .i64 a0, .int .i64 a1, .int .i64 a2] 52 (0, 0))) := by
    show _ = _; rw [hW]; exact heap_old_at (heap_new_at _ _ _ rfl) _
  have XB : Hid (W.heap[w.heap.size + 1]? = some (.cells #[.int .i64 t, .int .i64 c0, .int .i64 c1, .int .i64 c2] 52 (0, 0))) := by
    show _ = _; rw [hW]; exact heap_new_at _ _ _ (by simp)
  have HD := Lib.hid D0
  have l1 : w.heap.size + 1 < W.heap.size := (Array.getElem?_eq_some_iff.1 XB.out).1
  have hld := leads_any s a0 a1 a2 t c0 c1 c2 W
  obtain ⟨y0, y1, y2, y3⟩ := four_cells XA.out
  obtain ⟨z0, z1, z2, z3⟩ := four_cells XB.out
  clear D0
  by_cases h1 : a1 = c0
  · have hd : decide ((a1 : Int) = (c0 : Int)) = true := by simp; omega
    rw [hd] at hld
    have HR : Hid (r = (s != flp t)) := by show _ = _; rw [hr, beq_iff_eq.2 h1]; rfl
    clear hr hd
    subst h1
    go_enter Tryd.func26, Tryd.ntmps26
    go_upto_region 1 with fail
    rw [← hW]
    clear hW
    go_wp2_with (go_at_call 39; refine hld.mono ?_; rintro e w1 ⟨rfl, hb1⟩; obtain ⟨y0, y1, y2, y3⟩ := four_cells ((hb1.block w.heap.size (by omega)).trans XA.out); obtain ⟨z0, z1, z2, z3⟩ := four_cells ((hb1.block (w.heap.size + 1) l1).trans XB.out))
    go_ret
    refine ⟨ret_bool ?_, HD.out.trans (hb1.mono HD.out.size)⟩
    rw [HR.out, xor_one t ht]
    by_cases e : s = flp t
    · simp [e]
    · have e' : ¬ ((s : Int) = (flp t : Nat)) := by omega
      rw [bne_iff_ne.2 e, bne_iff_ne.2 e']
  · have hd : decide ((a1 : Int) = (c0 : Int)) = false := by simp; omega
    rw [hd] at hld
    have HR : Hid (r = false) := by show _ = _; rw [hr, beq_eq_false_iff_ne.2 h1]; rfl
    clear hr
    go_enter Tryd.func26, Tryd.ntmps26
    go_upto_region 1 with fail
    rw [← hW]
    clear hW
    go_wp2_with (go_at_call 39; refine hld.mono ?_; rintro e w1 ⟨rfl, hb1⟩)
    go_ret
    exact ⟨ret_bool HR.out.symm, HD.out.trans (hb1.mono HD.out.size)⟩

set_option maxHeartbeats 1600000 in
theorem implRw_no (n m : Int) (v : Value) (k : Nat) (fs zs : List Int) (p : Option Addr) (c : Nat) (w : World) (hs : Sa w v k fs) (hk : k ≤ 9223372036854775807) (hz : Sl w (.slice p zs.length c) zs) (hc : zs.length ≤ c) (hl : zs.length ≤ 9223372036854775807) (hE : ErrW w) (h0 : ¬ wkC n m k fs zs = 0) :
    Calls Tryd.prog 14 #[.agg #[.int .i64 n, .int .i64 m, v], .slice p zs.length c] w fun e w' => e = .returned (.tuple #[.bool false, .int .i64 (wkC n m k fs zs)]) ∧ Below w.heap.size w w' := by
  have D0 : Below w.heap.size w (w.alloc (.cells #[.int .i64 n, .int .i64 m, v] 31)) := (Below.refl _ _).alloc (Nat.le_refl _) _
  have hwk := walkOf_any n m v k fs zs p c (w.alloc (.cells #[.int .i64 n, .int .i64 m, v] 31)) (hs.below D0) hk (hz.below D0) hc hl (hE.belowAll D0)
  obtain ⟨C, hC⟩ : ∃ C, C = wkC n m k fs zs := ⟨_, rfl⟩
  rw [← hC] at hwk h0 ⊢
  have hne : (C != 0) = true := by simpa using h0
  clear hs hz hC h0 hE
  go_enter Tryd.func14, Tryd.ntmps14
  go_wp2_with (go_at_call 23; refine hwk.mono ?_; rintro e w1 ⟨⟨q, rfl, -⟩, hb1⟩)
  go_ret2
  exact ⟨rfl, D0.trans (hb1.mono (by simp))⟩

set_option maxHeartbeats 3200000 in
theorem implRw_yes (n m k cap : Nat) (sa : Option Addr) (fs zs : List Int) (p : Option Addr) (c : Nat) (w : World) (hs : Sa w (.slice sa k cap) k fs) (hk : k ≤ 16) (hz : Sl w (.slice p zs.length c) zs) (hc : zs.length ≤ c) (hE : ErrW w) (h0 : wkC n m k fs zs = 0) (r : Bool) (hr : r = redTo m fs zs zs.length zs.length) :
    Calls Tryd.prog 14 #[.agg #[.int .i64 n, .int .i64 m, .slice sa k cap], .slice p zs.length c] w fun e w' => e = .returned (.tuple #[.bool r, .int .i64 0]) ∧ Below w.heap.size w w' := by
  obtain ⟨-, h14, hnb, -⟩ := wk_parts h0
  have D0 : Below w.heap.size w (w.alloc (.cells #[.int .i64 n, .int .i64 m, .slice sa k cap] 31)) := (Below.refl _ _).alloc (Nat.le_refl _) _
  have hwk := walkOf_any n m (.slice sa k cap) k fs zs p c _ (hs.below D0) (by omega) (hz.below D0) hc (by omega) (hE.belowAll D0)
  rw [h0, Int.toNat_natCast] at hwk
  have HV : Hid (∀ i, i < zs.length → sp zs i < 32) := fun i hi => by have := (nbTo_at hnb hi).2; omega
  have HD := Lib.hid D0
  have HR := Lib.hid hr
  clear hs hz h0 hE hnb D0 hr
  go_enter Tryd.func14, Tryd.ntmps14
  go_wp2_with (go_at_call 23; refine hwk.mono ?_; rintro e w1 ⟨⟨q, rfl, hch⟩, hb1⟩)
  have HC : Hid (Ch w1 0 m fs zs 0 (zs.length - 0) q) := (hch trivial).kept (Nat.zero_le _) (fun _ _ _ => rfl)
  obtain ⟨a0, rfl⟩ := HC.out.ptr
  have HB1 := Lib.hid (HD.out.trans (hb1.mono HD.out.size))
  have s1 : w.heap.size ≤ w1.heap.size := HB1.out.size
  clear hwk hch hb1
  go_loopw [8, 9] (fun qv _ wr => ∃ (i : Nat) (a : Option Addr), i ≤ zs.length ∧ qv = .pointer a ∧ Hid (Ch w1 0 m fs zs i (zs.length - i) (.pointer a)) ∧ Hid (redTo m fs zs zs.length i = true) ∧ Below w1.heap.size w1 wr) (fun qv _ _ => chM w1.heap.size qv)
  case atStart => exact ⟨0, a0, Nat.zero_le _, rfl, HC, rfl, Below.refl _ _⟩
  case round =>
    obtain ⟨i, a, hi, rfl, HCH, HT, hB⟩ := hrel
    by_cases hlt : i < zs.length
    · obtain ⟨d, hd⟩ : ∃ d, zs.length - i = d + 1 := ⟨zs.length - i - 1, by omega⟩
      have hch := HCH.out
      rw [hd] at hch
      obtain ⟨g, q, e, hgl, hgc, hnx, hms⟩ := hch.step
      injection e with e
      subst e
      have HN : Hid (Ch w1 0 m fs zs (i + 1) (zs.length - (i + 1)) (.pointer q)) := by show Ch _ _ _ _ _ _ _ _; rw [show zs.length - (i + 1) = d by omega]; exact hnx
      have HM : Hid (chM w1.heap.size (.pointer q) < w1.heap.size - g) := hms
      obtain ⟨j, hj⟩ : ∃ j, j = nxW zs.length i := ⟨_, rfl⟩
      have hjl : j < zs.length := by rw [hj]; exact nxW_lt hlt
      obtain ⟨s, hss⟩ : ∃ s, s = sp zs i := ⟨_, rfl⟩
      obtain ⟨t, htt⟩ : ∃ t, t = sp zs j := ⟨_, rfl⟩
      have hs32 : s < 32 := by rw [hss]; exact HV.out i hlt
      have ht32 : t < 32 := by rw [htt]; exact HV.out j hjl
      rw [← hss] at hgc
      -- the follower
      have hfol : ∃ gf qf, gf < w1.heap.size ∧ w1.heap[gf]? = some (.cells #[.int .i64 t, .int .i64 (stA m fs t 0), .int .i64 (stA m fs t 1), .int .i64 (stA m fs t 2), .pointer qf] 54 (0, 0)) ∧ ((q = some ⟨gf, 0, none⟩) ∨ (q = none ∧ a0 = some ⟨gf, 0, none⟩)) := by
        by_cases e : i + 1 < zs.length
        · have hn := HN.out
          obtain ⟨d', hd'⟩ : ∃ d', zs.length - (i + 1) = d' + 1 := ⟨zs.length - (i + 1) - 1, by omega⟩
          rw [hd'] at hn
          obtain ⟨gf, qf, e1, h1, h2, -, -⟩ := hn.step
          injection e1 with e1
          have ej : j = i + 1 := by rw [hj]; unfold nxW; rw [if_pos e]
          rw [← ej, ← htt] at h2
          exact ⟨gf, qf, h1, h2, .inl e1⟩
        · have hn := HN.out
          rw [show zs.length - (i + 1) = 0 by omega] at hn
          have eq : q = none := by injection hn
          have h0 := HC.out
          obtain ⟨d', hd'⟩ : ∃ d', zs.length - 0 = d' + 1 := ⟨zs.length - 1, by omega⟩
          rw [hd'] at h0
          obtain ⟨gf, qf, e1, h1, h2, -, -⟩ := h0.step
          injection e1 with e1
          have ej : j = 0 := by rw [hj]; unfold nxW; rw [if_neg e]
          rw [show sp zs 0 = t by rw [htt, ej]] at h2
          exact ⟨gf, qf, h1, h2, .inr ⟨eq, e1⟩⟩
      obtain ⟨gf, qf, hfl, hfc, hfq⟩ := hfol
      obtain ⟨b, hb⟩ : ∃ b, b = ((stA m fs s 1 == stA m fs t 0) && (s != flp t)) := ⟨_, rfl⟩
      have HBR : Hid (b = redB m fs zs zs.length i) := by show _ = _; rw [hb, hss, htt, hj]; rfl
      have HMP := Lib.hid (mayP_any s (stA m fs s 0) (stA m fs s 1) (stA m fs s 2) t (stA m fs t 0) (stA m fs t 1) (stA m fs t 2) wr.drew ht32 b hb)
      have hS : ∀ W, Below wr.heap.size wr W → (W.cell? ⟨g, 0, none⟩ = some (.int .i64 s) ∧ W.cell? ⟨g, 1, none⟩ = some (.int .i64 (stA m fs s 0)) ∧ W.cell? ⟨g, 2, none⟩ = some (.int .i64 (stA m fs s 1)) ∧ W.cell? ⟨g, 3, none⟩ = some (.int .i64 (stA m fs s 2)) ∧ W.cell? ⟨g, 4, none⟩ = some (.pointer q)) ∧ (W.cell? ⟨gf, 0, none⟩ = some (.int .i64 t) ∧ W.cell? ⟨gf, 1, none⟩ = some (.int .i64 (stA m fs t 0)) ∧ W.cell? ⟨gf, 2, none⟩ = some (.int .i64 (stA m fs t 1)) ∧ W.cell? ⟨gf, 3, none⟩ = some (.int .i64 (stA m fs t 2))) := fun W hW =>
        ⟨(five_cells (((hB.trans (hW.mono hB.size)).block g hgl).trans hgc)).1, by obtain ⟨⟨x, y, z, u, -⟩, -⟩ := five_cells (((hB.trans (hW.mono hB.size)).block gf hfl).trans hfc); exact ⟨x, y, z, u⟩⟩
      obtain ⟨⟨x0, x1, x2, x3, x4⟩, y0, y1, y2, y3⟩ := hS wr (Below.refl _ _)
      have HS := Lib.hid hS
      have hso := hB.size
      have HTN : Hid (b = true → redTo m fs zs zs.length (i + 1) = true) := fun h => by rw [redTo_succ, HT.out, ← HBR.out, h]; rfl
      have HTF : Hid (b = false → r = false) := fun h => by rw [HR.out]; exact redTo_no hlt (by rw [← HBR.out, h])
      clear hch hgc hnx hms hfc hj hss htt hb hS HBR hd hfl
      rcases hfq with rfl | ⟨rfl, rfl⟩
      all_goals
        go_wp2_with fail
        go_region_held3 (fun W => (W.cell? ⟨g, 0, none⟩ = some (.int .i64 s) ∧ W.cell? ⟨g, 1, none⟩ = some (.int .i64 (stA m fs s 0)) ∧ W.cell? ⟨g, 2, none⟩ = some (.int .i64 (stA m fs s 1)) ∧ W.cell? ⟨g, 3, none⟩ = some (.int .i64 (stA m fs s 2))) ∧ (W.cell? ⟨gf, 0, none⟩ = some (.int .i64 t) ∧ W.cell? ⟨gf, 1, none⟩ = some (.int .i64 (stA m fs t 0)) ∧ W.cell? ⟨gf, 2, none⟩ = some (.int .i64 (stA m fs t 1)) ∧ W.cell? ⟨gf, 3, none⟩ = some (.int .i64 (stA m fs t 2)))) (go_keep)
          (first | (go_at_call 26; refine HMP.out.mono ?_; rintro e w4 ⟨rfl, hb4⟩; have hb4' : Below wr.heap.size wr w4 := below_drew hb4 (by simp); obtain ⟨⟨x0, x1, x2, x3, x4⟩, y0, y1, y2, y3⟩ := HS.out w4 hb4'))
        have hB4 := hB.trans (hb4'.mono hso)
        clear hb4 hb4' HMP HS
        cases b with
        | false =>
          have HRF : Hid (r = false) := HTF.out rfl
          clear HTN HTF
          go_wp2_with fail
          go_ret2
          rw [HRF.out]
          exact ⟨rfl, HB1.out.trans (hB4.mono s1)⟩
        | true =>
          have HT1 : Hid (redTo m fs zs zs.length (i + 1) = true) := HTN.out rfl
          clear HTN HTF
          go_wp2_with fail
          exact ⟨⟨i + 1, _, by omega, rfl, HN, HT1, hB4⟩, by simpa [chM] using HM.out⟩
    · obtain rfl : i = zs.length := by omega
      have e0 : a = none := by
        have h := HCH.out
        rw [Nat.sub_self] at h
        injection h
      subst e0
      have HRT : Hid (r = true) := by rw [HR.out]; exact HT.out
      go_wp2_with fail
      go_ret2
      rw [HRT.out]
      exact ⟨rfl, HB1.out.trans (hB.mono s1)⟩

theorem implRw_any (n m : Int) (v : Value) (k : Nat) (fs zs : List Int) (p : Option Addr) (c : Nat) (w : World) (hs : Sa w v k fs) (hk : k ≤ 9223372036854775807) (hz : Sl w (.slice p zs.length c) zs) (hc : zs.length ≤ c) (hl : zs.length ≤ 9223372036854775807) (hE : ErrW w) :
    Calls Tryd.prog 14 #[.agg #[.int .i64 n, .int .i64 m, v], .slice p zs.length c] w fun e w' => e = .returned (.tuple #[.bool (rwB n m k fs zs), .int .i64 (wkC n m k fs zs)]) ∧ Below w.heap.size w w' := by
  by_cases h0 : wkC n m k fs zs = 0
  · obtain ⟨N, M, rfl, rfl, h1, h2, h3, h4, _, h6, hav⟩ := isB_nats (wk_parts h0).1
    have hf := hs.form
    obtain ⟨sa, cap, rfl⟩ : ∃ sa cap, v = .slice sa k cap := ⟨_, _, hf⟩
    have h := implRw_yes N M k cap sa fs zs p c w hs h6 hz hc hE h0 (rwB N M k fs zs) (by unfold rwB; rw [decide_eq_true h0]; rfl)
    rw [h0]; exact h
  · rw [show rwB n m k fs zs = false by unfold rwB; rw [decide_eq_false h0]; rfl]
    exact implRw_no n m v k fs zs p c w hs hk hz hc hl hE h0
end Go.Proofs.YthonkphjahomeaaDoor
