/-
  impl.writeDistances.
-/
import Derived.Test.YtlodaeoikkjbkaaDoorMgC
import Derived.Test.YtlodaeoikkjbkaaDoorDi
import Derived.RangeFuncBox
namespace Go.Proofs.YtlodaeoikkjbkaaDoor
set_option maxRecDepth 100000
open Go.RowKit Go.Shelf

attribute [local go_sem] Oper.semAt_some

/-- The list T is T0 but that D stands in it from off on. -/
def Seg (T0 : List Int) (off : Nat) (T D : List Int) : Prop := T.length = T0.length ∧ off + D.length ≤ T0.length ∧ (∀ i, i < D.length → el T (off + i) = el D i) ∧ ∀ i, (i < off ∨ off + D.length ≤ i) → el T i = el T0 i
theorem Seg.set {T0 T D : List Int} {off : Nat} (h : Seg T0 off T D) (y : Nat) (hy : y < D.length) (z : Int) : Seg T0 off (T.set (off + y) z) (D.set y z) := by
  obtain ⟨h1, h2, h3, h4⟩ := h
  refine ⟨by rw [List.length_set]; exact h1, by rw [List.length_set]; exact h2, fun i hi => ?_, fun i hi => ?_⟩
  · rw [List.length_set] at hi
    by_cases e : i = y
    · rw [e, elSet_eq (by omega), elSet_eq hy]
    · rw [elSet_ne (by omega), elSet_ne e]; exact h3 i hi
  · rw [List.length_set] at hi
    rw [elSet_ne (by omega)]; exact h4 i hi
def segL (T0 : List Int) (off : Nat) (L : List Int) : List Int := (List.range T0.length).map fun i => if off ≤ i ∧ i < off + L.length then el L (i - off) else el T0 i
theorem segL_length (T0 : List Int) (off : Nat) (L : List Int) : (segL T0 off L).length = T0.length := by simp [segL]
theorem segL_at {T0 : List Int} {off : Nat} {L : List Int} {i : Nat} (hi : i < T0.length) : el (segL T0 off L) i = if off ≤ i ∧ i < off + L.length then el L (i - off) else el T0 i := by
  rw [el_lt (by rw [segL_length]; exact hi)]; simp [segL]
theorem Seg.done {T0 T D : List Int} {off : Nat} (h : Seg T0 off T D) : T = segL T0 off D := by
  obtain ⟨h1, h2, h3, h4⟩ := h
  refine ext_el (by rw [segL_length]; exact h1) fun i hi => ?_
  rw [segL_at (by omega)]
  by_cases hc : off ≤ i ∧ i < off + D.length
  · rw [if_pos hc, ← h3 (i - off) (by omega)]
    congr 1; omega
  · rw [if_neg hc]; exact h4 i (by omega)
theorem Seg.start (T0 : List Int) (off n : Nat) (h : off + n ≤ T0.length) : ∃ D : List Int, D.length = n ∧ Seg T0 off T0 D := by
  refine ⟨(List.range n).map fun i => el T0 (off + i), by simp, rfl, by simpa using h, fun i hi => ?_, fun i _ => rfl⟩
  rw [el_lt hi]; simp

theorem grown_old {w W : World} {gT k : Nat} {o : Obj} (h : w.grownBy W (some gT)) (hne : k ≠ gT) (hx : w.heap[k]? = some o) : W.heap[k]? = some o :=
  (h.block k (Array.getElem?_eq_some_iff.1 hx).1 (fun e => hne (by cases e; rfl))).trans hx
theorem grown_cell {w W : World} {gT b i : Nat} (h : w.grownBy W (some gT)) (hne : b ≠ gT) (hb : b < w.heap.size) : W.cell? ⟨b, i, none⟩ = w.cell? ⟨b, i, none⟩ := by
  have e := h.block b hb (fun e => hne (by cases e; rfl))
  unfold World.cell?
  simp only [e]
theorem grown_below2 {w W W2 : World} {gT : Nat} (h : w.grownBy W (some gT)) (hb : Below W.heap.size W W2) : w.grownBy W2 (some gT) := grown_trans h (grown_of_below hb (some gT))

theorem grown_below3 {w W W2 : World} {B : Nat} {row : Option Nat} (h : w.grownBy W row) (hb : Below B W W2) (hB : w.heap.size ≤ B) : w.grownBy W2 row :=
  ⟨hb.os.trans h.os, hb.tape.trans h.tape, hb.output.trans h.output, Nat.le_trans h.size hb.size, fun k hk hne => (hb.block k (by omega)).trans (h.block k hk hne)⟩

set_option maxRecDepth 100000 in
set_option maxHeartbeats 4000000 in
theorem writeD_in (gT off capT : Nat) (T0 : List Int) (b ob cap : Nat) (zs : List Int) (x : Nat) (w : World) (hb : b < w.heap.size) (hc : Cells w b ob zs) (hg : isG zs.length zs = true) (hx : x < zs.length) (hT : Tab w) (hB0 : Blk w gT T0) (hoff : off + zs.length ≤ T0.length) (hne : b ≠ gT) (hne2 : 0 < gT) :
    CallsIn Fence.wide 5 Tryd.prog 37 #[.slice (some ⟨gT, off, none⟩) zs.length capT, .agg #[.int .i64 zs.length, .slice (some ⟨b, ob, none⟩) zs.length cap], .int .i64 x] w fun e w' => (∃ v, e = .returned v) ∧ Blk w' gT (segL T0 off (dsL zs x)) ∧ w.grownBy w' (some gT) := by
  obtain ⟨g1, g2, -, -, -⟩ := isG_parts hg
  have hm62 : zs.length ≤ 62 := by omega
  have hgw := hB0.lt
  have HTL := hT.lt
  have HG := Lib.hid hg
  obtain ⟨Wz, hWz⟩ : ∃ Wz, Wz = (w.alloc (.cells #[.slice (some ⟨gT, off, none⟩) zs.length capT] 22)).alloc (.cells #[.int .i64 zs.length, .slice (some ⟨b, ob, none⟩) zs.length cap] 28) := ⟨_, rfl⟩
  have hsz : Wz.heap.size = w.heap.size + 2 := by rw [hWz]; simp
  have D0 : Below w.heap.size w Wz := by rw [hWz]; exact ((Below.refl _ _).alloc (Nat.le_refl _) _).alloc (by simp) _
  have HX0 : Hid (Wz.heap[w.heap.size]? = some (.cells #[.slice (some ⟨gT, off, none⟩) zs.length capT] 22 (0, 0))) := by show _ = _; rw [hWz]; exact heap_old_at (World.alloc_heap_new w _) _
  have HG0 : Hid (Wz.heap[w.heap.size + 1]? = some (.cells #[.int .i64 zs.length, .slice (some ⟨b, ob, none⟩) zs.length cap] 28 (0, 0))) := by show _ = _; rw [hWz]; exact heap_new_at _ _ _ (by simp)
  have HBz := Lib.hid (hB0.belowAll D0)
  have HCz := Lib.hid (hc.below D0 hb)
  have HTz := Lib.hid (hT.belowAll D0)
  have HXW : Hid (∀ W, Wz.grownBy W (some gT) → W.cell? ⟨w.heap.size, 0, none⟩ = some (.slice (some ⟨gT, off, none⟩) zs.length capT)) := fun W h => by rw [cell_of_row W _ 0 _ _ _ (grown_old h (by omega) HX0.out)]; rfl
  have HGW : Hid (∀ W, Wz.grownBy W (some gT) → W.heap[w.heap.size + 1]? = some (.cells #[.int .i64 zs.length, .slice (some ⟨b, ob, none⟩) zs.length cap] 28 (0, 0))) := fun W h => grown_old h (by omega) HG0.out
  have HCW : Hid (∀ W, Wz.grownBy W (some gT) → Cells W b ob zs) := fun W h i hi => (grown_cell h hne (by omega)).trans (HCz.out i hi)
  have HTW : Hid (∀ W, Wz.grownBy W (some gT) → Tab W) := fun W h j hj => (grown_cell h (by omega) (by omega)).trans (HTz.out j hj)
  have D0g := Lib.hid (grown_of_below D0 (some gT))
  obtain ⟨Ds0, hds1, hds2⟩ := Seg.start T0 off zs.length hoff
  have HS0 := Lib.hid hds2
  clear hc hg hT hB0 D0 hds2
  refine callsIn_of_wp_marks Tryd.func37 rfl trivial ?_ rfl
  simp only [Tryd.ntmps37, List.size_toArray, List.length_cons, List.length_nil, Nat.reduceAdd, Nat.reduceSub, Array.replicate_succ, Array.replicate_zero, List.push_toArray, List.append_toArray, List.nil_append, List.cons_append]
  gi_wp2
  refine at_world (w' := Wz) ?_ hWz.symm
  clear hWz
  refine wpIn_loop (fun a W => ∃ (k : Nat) (D : List Int) (u6 u13 u14 u15 u16 u17 u18 : Value), a = { tmps := #[.slice (some ⟨gT, off, none⟩) zs.length capT, .agg #[.int .i64 zs.length, .slice (some ⟨b, ob, none⟩) zs.length cap], .int .i64 x, .pointer (some ⟨w.heap.size, 0, none⟩), .pointer (some ⟨w.heap.size + 1, 0, none⟩), undef, u6, undef, undef, undef, .slice (some ⟨gT, off, none⟩) zs.length capT, .int .i64 zs.length, .int .i64 k, u13, u14, u15, u16, u17, u18, undef, undef, undef, undef, undef, undef, undef, undef, undef, undef, undef, undef, undef, undef, undef, undef, undef], defers := [] } ∧ k ≤ zs.length ∧ D.length = zs.length ∧ (∀ i, i < k → el D i = -1) ∧ (∃ T, Hid (Seg T0 off T D) ∧ Hid (Blk W gT T)) ∧ Hid (Wz.grownBy W (some gT))) (fun a _ => zs.length - (intOf (a.tmps.getD 12 undef)).toNat) ?h0 ?round
  case h0 =>
    exact ⟨0, Ds0, _, _, _, _, _, _, _, rfl, Nat.zero_le _, hds1, fun i hi => absurd hi (by omega), ⟨T0, HS0, HBz⟩, ⟨rfl, rfl, rfl, Nat.le_refl _, fun _ _ _ => rfl⟩⟩
  case round =>
    rintro a W ⟨k, D, u6, u13, u14, u15, u16, u17, u18, rfl, hk, hDl, hD1, ⟨T, HS, HB⟩, hgr⟩
    have cX := HXW.out W hgr.out
    by_cases hlt : (k : Int) < zs.length
    · have hkl : k < zs.length := by omega
      have hk0 : (0 : Int) ≤ k := by omega
      have hTl : off + k < T.length := by have := HS.out.1; omega
      have cD := HB.out.cell hTl
      have fD := HB.out.frozen (off + k)
      have HB2 := Lib.hid (HB.out.set (off + k) (-1))
      have HS2 := Lib.hid (HS.out.set k (by omega) (-1))
      have hgr2 := Lib.hid (grown_set hgr.out gT (off + k) (.int .i64 (-1)))
      gi_wp2
      refine ⟨⟨k + 1, D.set k (-1), _, _, _, _, _, _, _, rfl, by omega, by rw [List.length_set]; exact hDl, fun i hi => ?_, ⟨_, HS2, HB2⟩, hgr2⟩, ?_⟩
      · by_cases e : i = k
        · rw [e, elSet_eq (by omega)]
        · rw [elSet_ne e]; exact hD1 i (by omega)
      · simp [intOf]; omega
    · have hkl : k = zs.length := by omega
      have hWgr := hgr.out
      have hwB : Wz.heap.size ≤ W.heap.size := hWgr.size
      have hcall := levelRows_zero zs.length b ob cap zs x W (by omega) (HCW.out W hWgr) (HTW.out W hWgr) HG.out hx
      obtain ⟨b0, b1, -, -⟩ := two_cells (HGW.out W hWgr)
      clear hWgr
      gi_wp2_with (refine ⟨trivial, ?_⟩; gi_at_call 61; refine (callsIn_wide.2 hcall).mono ?_; rintro e w2 ⟨ls, gl, capl, rfl, hown, hok, hpos, hb2⟩)
      have HOWN := Lib.hid (ownsRow_base hown (B' := Wz.heap.size) hwB)
      have HOK := Lib.hid hok
      have hlen := hok.len
      have HD0 : Hid (DI zs x ls 0 [] D) := DI.zero hDl (fun i hi => hD1 i (by omega))
      have HB2 := Lib.hid (HB.out.belowAll hb2)
      have G2 := Lib.hid (grown_below2 hgr.out hb2)
      have hgl := World.ownsRow.lt hown gl rfl
      have hs2 := hb2.size
      clear hown hok hb2 b0 b1 hcall cX HB hgr
      refine wpIn_loop (fun a W => ∃ (k : Nat) (D : List Int) (Ds : List Nat) (u7 u8 u9 u24 u25 u26 u27 u28 u29 u30 u31 u32 u33 u34 u35 : Value), a = { tmps := #[.slice (some ⟨gT, off, none⟩) zs.length capT, .agg #[.int .i64 zs.length, .slice (some ⟨b, ob, none⟩) zs.length cap], .int .i64 x, .pointer (some ⟨w.heap.size, 0, none⟩), .pointer (some ⟨w.heap.size + 1, 0, none⟩), undef, u6, u7, u8, u9, .slice (some ⟨gT, off, none⟩) zs.length capT, .int .i64 zs.length, .int .i64 zs.length, .bool false, u14, u15, u16, u17, u18, .agg #[.int .i64 zs.length, .slice (some ⟨b, ob, none⟩) zs.length cap], .int .i64 x, .slice (some ⟨gl, 0, none⟩) ls.length capl, .int .i64 ls.length, .int .i64 k, u24, u25, u26, u27, u28, u29, u30, u31, u32, u33, u34, u35], defers := marks Ds } ∧ k ≤ ls.length ∧ DI zs x ls k [] D ∧ (∃ T, Hid (Seg T0 off T D) ∧ Hid (Blk W gT T)) ∧ Hid (Wz.grownBy W (some gT)) ∧ Hid (W.ownsRow Wz.heap.size 2 1 (.slice (some ⟨gl, 0, none⟩) ls.length capl) ls.length (natsV ls)) ∧ DsOk w2.heap.size W Ds ∧ w2.heap.size ≤ W.heap.size) (fun a _ => ls.length - (intOf (a.tmps.getD 23 undef)).toNat) ?h0b ?roundb
      case h0b =>
        exact ⟨0, D, [], _, _, _, _, _, _, _, _, _, _, _, _, _, _, _, rfl, Nat.zero_le _, HD0.out, ⟨T, HS, HB2⟩, G2, HOWN, ⟨List.nodup_nil, by simp⟩, Nat.le_refl _⟩
      case roundb =>
        rintro a W3 ⟨k2, D3, Ds, u7, u8, u9, u24, u25, u26, u27, u28, u29, u30, u31, u32, u33, u34, u35, rfl, hk2, hDI, ⟨T3, HS3, HB3⟩, HG3, HO3, hDs, hsz3⟩
        have cX := HXW.out W3 HG3.out
        by_cases hlt2 : (k2 : Int) < ls.length
        · have hkl2 : k2 < ls.length := by omega
          have hk20 : (0 : Int) ≤ k2 := by omega
          obtain ⟨r, hr⟩ : ∃ r, ls[k2]? = some r := ⟨_, List.getElem?_eq_getElem hkl2⟩
          have hcl : W3.cell? ⟨gl, k2, none⟩ = some (.int .i64 (r : Int)) := (World.ownsRow.cellAt HO3.out k2 (by omega)).trans (natsV_at hr)
          have hr62 := pow_small (HOK.out.bit k2 r hr).1 hm62
          have HR := Lib.hid hr
          have HDI := Lib.hid hDI
          clear hDI hr
          gi_wp2_with (refine ⟨trivial, ?_⟩; gi_at_call 42; refine (callsIn_wide.2 (membersOf_any _ _)).mono ?_; rintro e w' ⟨rfl, rfl⟩)
          obtain ⟨W4, hW4⟩ : ∃ W4, W4 = (W3.alloc (.cells #[.int .i64 k2] 3)).alloc (.cells #[.int .i64 r] 2) := ⟨_, rfl⟩
          refine at_world (w' := W4) ?_ hW4.symm
          have hs4 : W4.heap.size = W3.heap.size + 2 := by rw [hW4]; simp
          have hb4 : Boxed W4 W3.heap.size 3 (.int .i64 k2) := by rw [hW4]; exact (Boxed.new W3 3 _).alloc _
          have hc4 : W4.cell? ⟨W3.heap.size + 1, 0, none⟩ = some (.int .i64 r) := by rw [hW4]; have := World.cell?_alloc_new (w := W3.alloc (.cells #[.int .i64 k2] 3)) #[.int .i64 r] 2 0; rw [World.size_alloc] at this; rw [this]; rfl
          have hB34 : Below W3.heap.size W3 W4 := by rw [hW4]; exact ((Below.refl _ _).alloc (Nat.le_refl _) _).alloc (by simp) _
          have hG4 := Lib.hid (grown_below2 HG3.out hB34)
          have hT4 : Tab W4 := HTW.out W4 hG4.out
          have hB4 := Lib.hid (HB3.out.belowAll hB34)
          have hO4 := Lib.hid (ownsRow_below HO3.out hB34)
          have hDs4 : DsOk w2.heap.size W4 Ds := hDs.kept fun Dd hDd => hB34.block Dd (Array.getElem?_eq_some_iff.1 (hDs.2 Dd hDd).2).1
          have hgT3 := HB3.out.lt
          have hz3 := HG3.out.size
          clear hW4 HB3 HO3 hDs cX hcl
          refine wpIn_rangeFunc_ownF rfl (by omega) (gf := 67) (lb := #[.pointer (some ⟨W3.heap.size + 1, 0, none⟩)]) rfl trivial (enters_of Tryd.func67 (by kernel_rfl) rfl)
            (members_stops 4 (by omega) (W3.heap.size + 1) gT r (by omega) W4 (by omega) hc4 hT4 hne2) belowK_t (belowK_b (by omega)) (Below.refl _ _) (fun _ => rfl)
            (fun pre W' => (∃ D T, DI zs x ls k2 pre.unattach D ∧ Hid (Seg T0 off T D) ∧ Hid (Blk W' gT T)) ∧ Boxed W' W3.heap.size 3 (.int .i64 k2) ∧ Hid (Wz.grownBy W' (some gT)) ∧ Hid (W'.ownsRow Wz.heap.size 2 1 (.slice (some ⟨gl, 0, none⟩) ls.length capl) ls.length (natsV ls)) ∧ (∀ Dd, Dd ∈ Ds → W'.heap[Dd]? = some (.deferred (some []))) ∧ W4.heap.size ≤ W'.heap.size)
            (fun _ _ _ => False)
            ?hI (fun _ _ _ _ _ hs _ _ => hs) ?h0c (fun y => { tmps := #[.slice (some ⟨gT, off, none⟩) zs.length capT, .agg #[.int .i64 zs.length, .slice (some ⟨b, ob, none⟩) zs.length cap], .int .i64 x, .pointer (some ⟨w.heap.size, 0, none⟩), .pointer (some ⟨w.heap.size + 1, 0, none⟩), undef, u6, .pointer (some ⟨W3.heap.size, 0, none⟩), .int .i64 r, .int .i64 y.1, .slice (some ⟨gT, off, none⟩) zs.length capT, .int .i64 zs.length, .int .i64 zs.length, .bool false, u14, u15, u16, u17, u18, .agg #[.int .i64 zs.length, .slice (some ⟨b, ob, none⟩) zs.length cap], .int .i64 x, .slice (some ⟨gl, 0, none⟩) ls.length capl, .int .i64 ls.length, .int .i64 k2, .bool true, .int .i64 k2, .pointer (some ⟨gl, k2, none⟩), .int .i64 r, .int .i64 r, .func (.func 67) #[] #[.pointer (some ⟨W3.heap.size + 1, 0, none⟩)], .int .i64 y.1, u31, u32, u33, u34, u35], defers := [] }) ?assign ?body ?done ?stop
          case hI =>
            rintro pre A B row ⟨⟨D, T, hd1, hd2, hd3⟩, h2, h3, h4, h5, h6⟩ hg hr
            refine ⟨⟨D, T, hd1, hd2, kept_block hg hr (by omega) hd3.out⟩, kept_block hg hr (by omega) h2, ?_, World.ownsRow.kept h4.out hg (.inr (fun e => by have := (hr gl (by simpa [Value.ownBlock] using e.symm)).1; omega)), fun Dd hDd => kept_block hg hr ?_ (h5 Dd hDd), Nat.le_trans h6 hg.size⟩
            · refine ⟨hg.os.trans h3.out.os, hg.tape.trans h3.out.tape, hg.output.trans h3.out.output, Nat.le_trans h3.out.size hg.size, fun i hi hne => ?_⟩
              have h7 := h3.out.block i hi hne
              refine (hg.block i (Nat.lt_of_lt_of_le hi h3.out.size) fun e => ?_).trans h7
              have := (hr i e.symm).1
              omega
            · exact (Array.getElem?_eq_some_iff.1 (hDs4.2 Dd hDd).2).1
          case h0c =>
            exact ⟨⟨D3, T3, HDI.out, HS3, hB4⟩, hb4, hG4, hO4, fun Dd hDd => (hDs4.2 Dd hDd).2, Nat.le_refl _⟩
          case assign =>
            intro l y W K hK
            gi_wp2
            exact hK
          case body =>
            rintro l pre y W5 ⟨⟨D5, T5, hI5, hS5, hD5⟩, hv5, hG5, hO5, hDs5, hsz5⟩ _
            have hyb := (mem_iff.1 y.2).2
            have hyn : y.1 < zs.length := by
              refine Nat.lt_of_not_le fun hle => ?_
              have h2 := Nat.testBit_lt_two_pow (Nat.lt_of_lt_of_le (HOK.out.bit k2 r HR.out).1 (Nat.pow_le_pow_right (show 0 < 2 by decide) hle))
              rw [h2] at hyb; cases hyb
            have cX5 := HXW.out W5 hG5.out
            have cv5 := hv5.cell
            have hTl5 : off + y.1 < T5.length := by have := hS5.out.1; omega
            have cD5 := hD5.out.cell hTl5
            have fD5 := hD5.out.frozen (off + y.1)
            have hy0 : (0 : Int) ≤ y.1 := by omega
            have hy1 : (y.1 : Int) < zs.length := by omega
            have HN := Lib.hid (hI5.step HOK.out hx HR.out hyn hyb)
            have HSN := Lib.hid (hS5.out.set y.1 (by have := hI5.1; omega) k2)
            have HBN := Lib.hid (hD5.out.set (off + y.1) k2)
            have HGN := Lib.hid (grown_set hG5.out gT (off + y.1) (.int .i64 k2))
            have HON : Hid ((W5.setCell ⟨gT, off + y.1, none⟩ (.int .i64 k2)).ownsRow Wz.heap.size 2 1 (.slice (some ⟨gl, 0, none⟩) ls.length capl) ls.length (natsV ls)) := World.ownsRow.kept hO5.out (grown_set ⟨rfl, rfl, rfl, Nat.le_refl _, fun _ _ _ => rfl⟩ gT (off + y.1) _) (.inr (by simp [Value.ownBlock]; omega))
            clear hS5 hD5 hO5
            gi_wp2
            refine ⟨KeepsOthers.setCell _ _ _, (Below.refl _ _).setCell (p := ⟨gT, off + y.1, none⟩) (by simp) _, ⟨D5.set y.1 (k2 : Int), _, by rw [List.unattach_append]; exact HN.out, HSN, HBN⟩, (Below.heap_setCell _ _ _ _ (by simp; omega)).trans hv5, HGN, HON, fun Dd hDd => (Below.heap_setCell _ _ _ _ (by have := (hDs4.2 Dd hDd).1; simp; omega)).trans (hDs5 Dd hDd), by simpa using hsz5⟩
          case done =>
            rintro Dm ys W6 hDD rfl ⟨⟨D6, T6, hI6, hS6, hD6⟩, hv6, hG6, hO6, hDs6, hsz6⟩ hK
            gi_wp2
            refine ⟨⟨k2 + 1, D6, Dm :: Ds, _, _, _, _, _, _, _, _, _, _, _, _, _, _, _, rfl, by omega, DI.next (by rw [show (memL r).unattach = mem r from memL_val r] at hI6; exact hI6) HR.out hm62, ⟨T6, hS6, hD6⟩, hG6, hO6, ?_, by omega⟩, ?_⟩
            · refine ⟨List.nodup_cons.2 ⟨fun hDD' => ?_, hDs4.1⟩, fun E hE => ?_⟩
              · have := (Array.getElem?_eq_some_iff.1 (hDs4.2 Dm hDD').2).1; omega
              · rcases List.mem_cons.1 hE with rfl | hE
                · exact ⟨by omega, hK⟩
                · exact ⟨(hDs4.2 E hE).1, hDs6 E hE⟩
            · simp [intOf]; omega
          case stop =>
            rintro D c pre W _ _ h _
            exact h.elim
        · have hk3 : k2 = ls.length := by omega
          have HF : Hid (D3 = dsL zs x) := by show _ = _; rw [hk3] at hDI; exact hDI.done HOK.out
          have hgT3 := HB3.out.lt
          gi_wp2
          refine leaves_marks (H := w2.heap.size) Ds _ hDs fun W' hs hb' => ?_
          have hG' := grown_below3 (grown_trans D0g.out HG3.out) hb' (by omega)
          have hD' : Blk W' gT T3 := (hb'.block _ (by omega)).trans HB3.out
          rw [HS3.out.done, HF.out] at hD'
          exact ⟨_, results_none rfl _ _ _, ⟨_, rfl⟩, hD', hG'⟩

theorem writeD_any (gT off capT : Nat) (T0 : List Int) (b ob cap : Nat) (zs : List Int) (x : Nat) (w : World) (hb : b < w.heap.size) (hc : Cells w b ob zs) (hg : isG zs.length zs = true) (hx : x < zs.length) (hT : Tab w) (hB0 : Blk w gT T0) (hoff : off + zs.length ≤ T0.length) (hne : b ≠ gT) (hne2 : 0 < gT) :
    Calls Tryd.prog 37 #[.slice (some ⟨gT, off, none⟩) zs.length capT, .agg #[.int .i64 zs.length, .slice (some ⟨b, ob, none⟩) zs.length cap], .int .i64 x] w fun e w' => (∃ v, e = .returned v) ∧ Blk w' gT (segL T0 off (dsL zs x)) ∧ w.grownBy w' (some gT) :=
  callsIn_wide.1 (writeD_in gT off capT T0 b ob cap zs x w hb hc hg hx hT hB0 hoff hne hne2)
end Go.Proofs.YtlodaeoikkjbkaaDoor
