/-
  ArcsOf: both programs.
-/
import Derived.Test.YtbncfhmpkoaffaaDoorSn8
import Derived.Test.YtbncfhmpkoaffaaDoorCl8
import Derived.RangeFuncWrites
import Derived.RangeFuncBox
import Derived.Sort.CutIn
namespace Go.Proofs.YtbncfhmpkoaffaaDoor
set_option maxRecDepth 100000
set_option maxRecDepth 100000
open Go.RowKit Go.Shelf

attribute [local go_sem] Oper.semAt_some

set_option maxHeartbeats 4000000 in
theorem implAo_in (b off cap : Nat) (zs : List Int) (w : World) (hb : b < w.heap.size) (hc : Cells w b off zs) (hd : isD zs.length zs = true) (hl : zs.length ≤ 9223372036854775807) (hT : TabE w) :
    CallsIn Fence.wide 5 Tryd.prog 15 #[.agg #[.int .i64 zs.length, .slice (some ⟨b, off, none⟩) zs.length cap]] w fun e w' => LSRes w.heap.size (ArLL zs) 0 e w' ∧ Below w.heap.size w w' := by
  have D0 : Below w.heap.size w (w.alloc (.cells #[.int .i64 zs.length, .slice (some ⟨b, off, none⟩) zs.length cap] 29)) := (Below.refl _ _).alloc (Nat.le_refl _) _
  have his := chkD_any zs.length _ zs _ (.inr ⟨b, off, cap, rfl, Nat.lt_of_lt_of_le hb D0.size, hc.below D0 hb⟩) hl (hT.2.belowAll D0)
  unfold dC at his
  rw [hd, if_pos rfl] at his
  have hg := dg_ok hd
  have HG0 := Lib.hid (GBox.newD (n := (zs.length : Int)) (cap := cap) hb hc)
  have HG := Lib.hid hg
  have h62 : zs.length ≤ 62 := hg.le
  have HT0 := Lib.hid hT.1
  have hT0 := hT.1.lt
  have HC0 := Lib.hid hc
  obtain ⟨j0, hj, hy0, hy1, hy2⟩ := info_parts mkS_info
  have HJ := Lib.hid hj; have HJ0 := Lib.hid hy0; have HJ1 := Lib.hid hy1; have HJ2 := Lib.hid hy2
  clear hc hg hT hd hj hy0 hy1 hy2
  refine callsIn_of_wp_marks Tryd.func15 rfl trivial ?_ rfl
  simp only [Tryd.ntmps15, List.size_toArray, List.length_cons, List.length_nil, Nat.reduceAdd, Nat.reduceSub, Array.replicate_succ, Array.replicate_zero, List.push_toArray, List.append_toArray, List.nil_append, List.cons_append]
  gi_upto_region 4 with (refine ⟨trivial, ?_⟩; gi_at_call 45; refine (callsIn_wide.2 his).mono ?_; rintro e w1 ⟨rfl, hb1⟩)
  have G1 := Lib.hid (HG0.out.below (hb1.mono (by simp)))
  have D1 : Below w.heap.size w w1 := D0.trans (hb1.mono (by simp))
  have s1 : w.heap.size + 1 ≤ w1.heap.size := by have := hb1.size; simpa using this
  clear his hb1 D0 HG0
  gi_upto_region 5 with fail
  obtain ⟨Wb, hWb⟩ : ∃ Wb, Wb = w1.alloc (.cells #[.slice none 0 0] 26) := ⟨_, rfl⟩
  refine at_world (w' := Wb) ?_ (by rw [hWb])
  have hbb : Below w1.heap.size w1 Wb := by rw [hWb]; exact (Below.refl _ _).alloc (Nat.le_refl _) _
  have sb : Wb.heap.size = w1.heap.size + 1 := by rw [hWb]; simp
  have BXb : Hid (Bx Wb w1.heap.size 26 (.slice none 0 0)) := by show Bx _ _ _ _; rw [hWb]; exact World.alloc_heap_new w1 _
  have Gb := G1.out.below (hbb.mono s1)
  have b0 := Gb.b0; have b1 := Gb.b1
  have hEb : Below w.heap.size w Wb := D1.trans (hbb.mono (by omega))
  clear hWb
  gi_wp2
  clear b0 b1 Gb
  refine wpIn_loop (fun a W => ∃ (v : Nat) (Ds : List Nat) (u u4 u6 u7 u8 u9 u10 u11 u12 u13 u14 u18 u19 u20 u21 u22 u23 u24 u25 u26 u27 u28 u29 u30 u31 u32 : Value), a = { tmps := #[.agg #[.int .i64 zs.length, .slice (some ⟨b, off, none⟩) zs.length cap], .pointer (some ⟨w.heap.size, 0, none⟩), .slice none 0 0, .int .i64 0, u4, .pointer (some ⟨w1.heap.size, 0, none⟩), u6, u7, u8, u9, u10, u11, u12, u13, u14, .slice (some ⟨b, off, none⟩) zs.length cap, .int .i64 zs.length, .int .i64 v, u18, u19, u20, u21, u22, u23, u24, u25, u26, u27, u28, u29, u30, u31, u32], defers := marks Ds } ∧
      v ≤ zs.length ∧ Hid (Bx W w1.heap.size 26 u) ∧ Hid (TL W (w1.heap.size + 1) u ((acP zs v).map prI)) ∧ Below w.heap.size w W ∧ DsOk Wb.heap.size W Ds ∧ Wb.heap.size ≤ W.heap.size) (fun a _ => zs.length - (intOf (a.tmps.getD 17 undef)).toNat) ?h0 ?round
  case h0 =>
    exact ⟨0, [], .slice none 0 0, _, _, _, _, _, _, _, _, _, _, _, _, _, _, _, _, _, _, _, _, _, _, _, _, _, rfl, Nat.zero_le _, BXb, TL.nil _ _, hEb, ⟨List.nodup_nil, by simp⟩, Nat.le_refl _⟩
  case round =>
    rintro a W ⟨v, Ds, u, u4, u6, u7, u8, u9, u10, u11, u12, u13, u14, u18, u19, u20, u21, u22, u23, u24, u25, u26, u27, u28, u29, u30, u31, u32, rfl, hv, HX, HTL, hB, hD, hsw⟩
    by_cases hlt : v < zs.length
    · have hlti : (v : Int) < zs.length := by omega
      have hv0 : (0 : Int) ≤ v := by omega
      obtain ⟨z, hzz⟩ : ∃ z : Nat, el zs v = (z : Int) := ⟨(el zs v).toNat, by have := HG.out.ge v; omega⟩
      have hzlt : z < 4611686018427387904 := by have := HG.out.lt62 v; unfold nat at this; rw [hzz, Int.toNat_natCast] at this; exact this
      have cz : W.cell? ⟨b, off + v, none⟩ = some (.int .i64 (z : Int)) := by rw [← hzz]; exact (HC0.out.below hB hb) v hlt
      have HZZ : Hid (nat zs v = z) := by show _ = _; unfold nat; rw [hzz, Int.toNat_natCast]
      clear hzz
      gi_wp2_with (refine ⟨trivial, ?_⟩; gi_at_call 46; refine (callsIn_wide.2 (membersOf_any _ _)).mono ?_; rintro e w' ⟨rfl, rfl⟩)
      obtain ⟨W1, hW1⟩ : ∃ W1, W1 = (W.alloc (.cells #[.int .i64 v] 3)).alloc (.cells #[.int .i64 z] 2) := ⟨_, rfl⟩
      refine at_world (w' := W1) ?_ hW1.symm
      have hs1 : W1.heap.size = W.heap.size + 2 := by rw [hW1]; simp
      have hbw : Below W.heap.size W W1 := by rw [hW1]; exact ((Below.refl _ _).alloc (Nat.le_refl _) _).alloc (by simp) _
      have hb1 : Boxed W1 W.heap.size 3 (.int .i64 v) := by rw [hW1]; exact (Boxed.new W 3 _).alloc _
      have hc1 : W1.cell? ⟨W.heap.size + 1, 0, none⟩ = some (.int .i64 z) := by rw [hW1]; have := World.cell?_alloc_new (w := W.alloc (.cells #[.int .i64 v] 3)) #[.int .i64 z] 2 0; rw [World.size_alloc] at this; rw [this]; rfl
      have hB1 : Below w.heap.size w W1 := hB.trans (hbw.mono (by omega))
      have hT1 : Tab W1 := HT0.out.belowAll hB1
      have HX1 : Hid (Bx W1 w1.heap.size 26 u) := (hbw.block _ HX.out.lt).trans HX.out
      have HTL1 : Hid (TL W1 (w1.heap.size + 1) u ((acP zs v).map prI)) := HTL.out.below hbw
      have hD1 : DsOk Wb.heap.size W1 Ds := hD.kept fun Dd hDd => hbw.block Dd (Array.getElem?_eq_some_iff.1 (hD.2 Dd hDd).2).1
      have hun : u.ownBlock ≠ some W.heap.size := fun e => by
        obtain ⟨cs, hcs⟩ := HTL.out
        have := (World.ownsRow.lt hcs.1.1 _ e).2
        omega
      obtain ⟨La, hLa⟩ : ∃ La, La = (acP zs v).map prI := ⟨_, rfl⟩
      have hLal : La.length ≤ 3968 := by rw [hLa, List.length_map]; have := acP_len zs v; omega
      have HLA : Hid (La ++ (mem z).map (fun y : Nat => [(v : Int), (y : Int)]) = (acP zs (v + 1)).map prI) := by
        show _ = _
        rw [acP_succ, List.map_append, ← hLa, HZZ.out, List.map_map]; rfl
      rw [← hLa] at HTL1
      clear hW1 HX HTL hD cz hLa
      refine wpIn_rangeFunc_ownF rfl (by omega) (gf := 74) (lb := #[.pointer (some ⟨W.heap.size + 1, 0, none⟩)]) rfl trivial (enters_of Tryd.func74 (by kernel_rfl) rfl)
        (members_stops 4 (by omega) (W.heap.size + 1) w.heap.size z (by omega) W1 (by omega) hc1 hT1 hT0) belowK_t (belowK_b (by omega)) (Below.refl _ _) (fun _ => rfl)
        (fun pre W' => ∃ u, Hid (Bx W' w1.heap.size 26 u) ∧ Hid (TL W' (w1.heap.size + 1) u (La ++ pre.unattach.map fun y : Nat => [(v : Int), (y : Int)])) ∧ Boxed W' W.heap.size 3 (.int .i64 v) ∧ (∀ D, D ∈ Ds → W'.heap[D]? = some (.deferred (some []))) ∧ Below w.heap.size w W' ∧ W1.heap.size ≤ W'.heap.size ∧ u.ownBlock ≠ some W.heap.size)
        (fun _ _ _ => False)
        ?hI (fun _ _ _ _ _ hs _ _ => hs) ?h0 (fun y => { tmps := #[.agg #[.int .i64 zs.length, .slice (some ⟨b, off, none⟩) zs.length cap], .pointer (some ⟨w.heap.size, 0, none⟩), .slice none 0 0, .int .i64 0, u4, .pointer (some ⟨w1.heap.size, 0, none⟩), .pointer (some ⟨W.heap.size, 0, none⟩), .int .i64 z, .int .i64 y.1, u9, u10, u11, u12, u13, u14, .slice (some ⟨b, off, none⟩) zs.length cap, .int .i64 zs.length, .int .i64 v, .bool true, .int .i64 v, .pointer (some ⟨b, off + v, none⟩), .int .i64 z, .int .i64 z, .func (.func 74) #[] #[.pointer (some ⟨W.heap.size + 1, 0, none⟩)], .int .i64 y.1, u25, u26, u27, u28, u29, u30, u31, u32], defers := [] }) ?assign ?body ?done ?stop
      case hI =>
        rintro pre A B row ⟨u, h1, h2, h3, h5, h6, h7, h8⟩ hg hr
        refine ⟨u, kept_rowP hg hr (by omega) h1.out, h2.out.kept hg (fun r e => (hr r e).2), kept_rowP hg hr (by omega) h3, fun D hD => kept_rowP hg hr ?_ (h5 D hD), h6.grown hg h6.size (fun k e => by have := (hr k e).1; omega), Nat.le_trans h7 hg.size, h8⟩
        exact (Array.getElem?_eq_some_iff.1 (hD1.2 D hD).2).1
      case h0 =>
        exact ⟨u, HX1, by show TL _ _ _ _; rw [show List.unattach ([] : List (Mem z)) = [] from rfl, List.map_nil, List.append_nil]; exact HTL1.out, hb1, fun D hD => (hD1.2 D hD).2, hB1, Nat.le_refl _, hun⟩
      case assign =>
        intro l x W' K hK
        gi_wp2
        exact hK
      case body =>
        rintro l pre y W5 ⟨u, hbx, htl, hbv, hD5, hB5, hs5, hne5⟩ hlen
        have cv := hbx.out.cell
        have ci := hbv.cell
        have hLpl : (La ++ pre.unattach.map fun y : Nat => [(v : Int), (y : Int)]).length ≤ 4040 := by
          have h2 : pre.unattach.length = pre.length := by simp
          have h3 : (memL z).length = (mem z).length := by unfold memL; simp
          have h4 := mem_len64P z
          rw [List.length_append, List.length_map]
          omega
        have HMAP : Hid ((La ++ (pre ++ [y]).unattach.map fun y : Nat => [(v : Int), (y : Int)]) = (La ++ pre.unattach.map fun y : Nat => [(v : Int), (y : Int)]) ++ [[(v : Int), (y.1 : Int)]]) := by
          show _ = _
          rw [List.unattach_append, List.map_append, List.append_assoc]; rfl
        obtain ⟨Lp, hLp⟩ : ∃ Lp, Lp = (La ++ pre.unattach.map fun y : Nat => [(v : Int), (y : Int)]) := ⟨_, rfl⟩
        rw [← hLp] at htl hLpl HMAP
        obtain ⟨cs, htc⟩ := htl.out
        have HTC := Lib.hid htc
        have HT7 : Hid (((W5.alloc (.cells #[.int .i64 v, .int .i64 y.1] 2)).alloc (.cells #[.slice (some ⟨W5.heap.size, 0, none⟩) 2 2] 22)).ownsRow (w1.heap.size + 1) 22 1 u Lp.length cs) := World.ownsRow.alloc (World.ownsRow.alloc htc.1.1 _) _
        have HNC : Hid (∀ j q, [Value.slice (some ⟨W5.heap.size, 0, none⟩) 2 2][j]? = some q → ((W5.alloc (.cells #[.int .i64 v, .int .i64 y.1] 2)).alloc (.cells #[.slice (some ⟨W5.heap.size, 0, none⟩) 2 2] 22)).cell? ((⟨W5.heap.size + 1, 0, none⟩ : Addr).add j) = some q) := by
          have h := cell_one_new (W5.alloc (.cells #[.int .i64 v, .int .i64 y.1] 2)) (.slice (some ⟨W5.heap.size, 0, none⟩) 2 2) 22
          rw [World.size_alloc] at h
          exact h
        have HBV := Lib.hid hbv
        clear hLp htc hlen hbv
        generalize y.1 = yv at *
        gi_wp2_with (gi_at_builtin; refine wpListIn_append_own_at _ rfl (.tmp 25) (.tmp 29) 26 rfl (w1.heap.size + 1) 22 j0 (.slice none 0 0) 1 24 Tryd.underlying26 HJ.out HJ0.out HJ1.out HJ2.out rfl (by decide) u Lp.length cs rfl HT7.out ⟨W5.heap.size + 1, 0, none⟩ 1 1 [.slice (some ⟨W5.heap.size, 0, none⟩) 2 2] rfl rfl HNC.out (by simp [Value.oneCell']) (by unfold maxLen; omega) (by omega) (by simp; omega) ?_; intro l3 w8 hown8 hgr8 _ hloc; obtain ⟨q1, q2, q3, q4, q5, q6, q7⟩ := snoc_end hbx.out (by omega) HTC.out (by omega) hown8 hgr8 (by simpa using hloc); have c8 := q1.cell; have f8 := q1.frozen; obtain ⟨gg, cp, rfl⟩ := ownsRow_succ hown8; have Q2 := Lib.hid q2; have Q3 := Lib.hid q3; have Q4 := Lib.hid q4; have Q5 := Lib.hid q5; have Q6 := Lib.hid q6; have HLO := Lib.hid hloc; clear q1 q2 q3 q4 q5 q6 hown8 hgr8 hloc)
        have hul : ∀ k, u.ownBlock = some k → w1.heap.size + 1 ≤ k := fun k e => (World.ownsRow.lt HTC.out.1.1 k e).1
        refine ⟨Q2.out, Q5.out _ (by omega), _, Q3.out, ?_, ?_, fun D hD => ?_, hB5.trans (Q5.out _ (by omega)), by omega, fun e => ?_⟩
        · show TL _ _ _ _
          rw [HMAP.out]; exact Q4.out
        · exact (Q6.out _ (by omega) (by omega) hne5).trans HBV.out
        · exact (Q6.out D (Array.getElem?_eq_some_iff.1 (hD5 D hD)).1 (by have := (hD1.2 D hD).1; omega) (TL.notMark HTC.out hD5 D hD)).trans (hD5 D hD)
        · rcases HLO.out with h | h
          · rw [h] at e; exact hne5 e
          · rw [h] at e
            have h4 : W5.heap.size + 2 = W.heap.size := by simpa using e
            omega
      case done =>
        rintro D ys W2 hDD rfl ⟨u, hbx, htl, hbv, hD', hB', hs', hne⟩ hK
        have HTL2 : Hid (TL W2 (w1.heap.size + 1) u ((acP zs (v + 1)).map prI)) := by
          show TL _ _ _ _
          rw [← HLA.out, ← show (memL z).unattach = mem z from memL_val z]; exact htl.out
        clear htl
        gi_wp2
        refine ⟨⟨v + 1, D :: Ds, u, _, _, _, _, _, _, _, _, _, _, _, _, _, _, _, _, _, _, _, _, _, _, _, _, _, rfl, by omega, hbx, HTL2, hB', ?_, by omega⟩, ?_⟩
        · refine ⟨List.nodup_cons.2 ⟨fun hDD' => ?_, hD1.1⟩, fun E hE => ?_⟩
          · have := (Array.getElem?_eq_some_iff.1 (hD1.2 D hDD').2).1; omega
          · rcases List.mem_cons.1 hE with rfl | hE
            · exact ⟨by omega, hK⟩
            · exact ⟨(hD1.2 E hE).1, hD' E hE⟩
        · simp [intOf]; omega
      case stop =>
        rintro D c pre W' _ _ h _
        exact h.elim
    · obtain rfl : v = zs.length := by omega
      have cv := HX.out.cell
      gi_wp2
      refine leaves_marks (H := Wb.heap.size) Ds _ hD fun W' hs hb' => ⟨_, results_tmp2 rfl _ _ _, ⟨u, rfl, (HTL.out.marks hD hs).base (by omega)⟩, hB.trans (hb'.mono (by omega))⟩

/-- The arcs and the code. -/
def AoL (n : Int) (zs : List Int) : List (List Int) := if isD n zs then ArLL zs else []

set_option maxHeartbeats 800000 in
theorem implAo_no (n : Int) (v : Value) (zs : List Int) (w : World) (h : Sl w v zs) (hd : isD n zs = false) (hl : zs.length ≤ 9223372036854775807) (hT : TabE w) :
    Calls Tryd.prog 15 #[.agg #[.int .i64 n, v]] w fun e w' => LSRes w.heap.size [] 1 e w' ∧ Below w.heap.size w w' := by
  have D0 : Below w.heap.size w (w.alloc (.cells #[.int .i64 n, v] 29)) := (Below.refl _ _).alloc (Nat.le_refl _) _
  have his := chkD_any n v zs _ (h.below D0) hl (hT.2.belowAll D0)
  unfold dC at his
  rw [hd, if_neg (by simp)] at his
  clear h hd hT
  go_enter Tryd.func15, Tryd.ntmps15
  go_wp2_with (go_at_call 45; refine his.mono ?_; rintro e w1 ⟨rfl, hb1⟩)
  go_ret2
  exact ⟨⟨_, rfl, TL.nil _ _⟩, D0.trans (hb1.mono (by simp))⟩

theorem implAo_any (n : Int) (v : Value) (zs : List Int) (w : World) (h : Sl w v zs) (hl : zs.length ≤ 9223372036854775807) (hT : TabE w) :
    Calls Tryd.prog 15 #[.agg #[.int .i64 n, v]] w fun e w' => LSRes w.heap.size (AoL n zs) (dC n zs) e w' ∧ Below w.heap.size w w' := by
  unfold AoL dC
  cases hd : isD n zs with
  | false => exact implAo_no n v zs w h hd hl hT
  | true =>
    rcases h with ⟨a', c', rfl, rfl⟩ | ⟨b, off, cap, rfl, hb, hc⟩
    · rw [isD_nil] at hd; exact absurd hd (by simp)
    · obtain rfl : (zs.length : Int) = n := (dg_ok hd).size
      exact callsIn_wide.1 (implAo_in b off cap zs w hb hc hd hl hT)
end Go.Proofs.YtbncfhmpkoaffaaDoor
