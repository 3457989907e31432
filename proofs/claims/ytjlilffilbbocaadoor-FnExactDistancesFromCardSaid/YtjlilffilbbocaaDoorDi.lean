/-
  impl.DistancesFrom.
-/
import Derived.Test.YtjlilffilbbocaaDoorLi
import Derived.RangeFuncBox
namespace Go.Proofs.YtjlilffilbbocaaDoor
open Go.RowKit Go.Shelf

attribute [local go_sem] Oper.semAt_some

/-- What holds of the list D behind the rows ahead of k and the members pre of row k. -/
def DI (zs : List Int) (x : Nat) (ls : List Nat) (k : Nat) (pre : List Nat) (D : List Int) : Prop := D.length = zs.length ∧
  (∀ w, w < zs.length → (w ∈ pre ∨ ∃ (j r : Nat), j < k ∧ ls[j]? = some r ∧ r.testBit w = true) → el D w = dOf (Rw zs x 0) zs.length x w) ∧
  (∀ w, w < zs.length → ¬ (w ∈ pre ∨ ∃ (j r : Nat), j < k ∧ ls[j]? = some r ∧ r.testBit w = true) → el D w = -1)
theorem DI.zero {zs : List Int} {x : Nat} {ls : List Nat} {D : List Int} (h : D.length = zs.length) (h1 : ∀ i, i < zs.length → el D i = -1) : DI zs x ls 0 [] D :=
  ⟨h, fun w _ hw => by rcases hw with hw | ⟨j, _, hj, _⟩
                       · cases hw
                       · omega, fun w hw _ => h1 w hw⟩
theorem DI.step {zs : List Int} {x : Nat} {ls : List Nat} {D : List Int} {k r y : Nat} {pre : List Nat} (h : DI zs x ls k pre D) (hok : LvOk zs x 0 ls) (hx : x < zs.length) (hr : ls[k]? = some r) (hy : y < zs.length) (hb : r.testBit y = true) : DI zs x ls k (pre ++ [y]) (D.set y (k : Int)) := by
  have hd := hok.yes hx hr hb
  refine ⟨by rw [List.length_set]; exact h.1, fun w hw hc => ?_, fun w hw hc => ?_⟩
  · by_cases e : w = y
    · rw [e, elSet_eq (by rw [h.1]; exact hy), hd]
    · rw [elSet_ne e]
      refine h.2.1 w hw ?_
      rcases hc with hc | hc
      · rcases List.mem_append.1 hc with hc | hc
        · exact .inl hc
        · exact absurd (by simpa using hc) e
      · exact .inr hc
  · have e : w ≠ y := fun e => hc (.inl (by rw [e]; simp))
    rw [elSet_ne e]
    refine h.2.2 w hw fun hc2 => hc ?_
    rcases hc2 with hc2 | hc2
    · exact .inl (List.mem_append.2 (.inl hc2))
    · exact .inr hc2
theorem DI.next {zs : List Int} {x : Nat} {ls : List Nat} {D : List Int} {k r : Nat} (h : DI zs x ls k (mem r) D) (hr : ls[k]? = some r) (h62 : zs.length ≤ 62) : DI zs x ls (k + 1) [] D := by
  have key : ∀ w, w < zs.length → ((w ∈ ([] : List Nat) ∨ ∃ (j q : Nat), j < k + 1 ∧ ls[j]? = some q ∧ q.testBit w = true) ↔ (w ∈ mem r ∨ ∃ (j q : Nat), j < k ∧ ls[j]? = some q ∧ q.testBit w = true)) := by
    intro w hw
    constructor
    · rintro (hc | ⟨j, q, hj, hq, hb⟩)
      · cases hc
      · rcases Nat.lt_or_ge j k with hlt | hge
        · exact .inr ⟨j, q, hlt, hq, hb⟩
        · obtain rfl : j = k := by omega
          rw [hr] at hq
          obtain rfl : r = q := by simpa using hq
          exact .inl (mem_iff.2 ⟨by omega, hb⟩)
    · rintro (hc | ⟨j, q, hj, hq, hb⟩)
      · exact .inr ⟨k, r, by omega, hr, (mem_iff.1 hc).2⟩
      · exact .inr ⟨j, q, by omega, hq, hb⟩
  exact ⟨h.1, fun w hw hc => h.2.1 w hw ((key w hw).1 hc), fun w hw hc => h.2.2 w hw fun hc2 => hc ((key w hw).2 hc2)⟩
theorem DI.done {zs : List Int} {x : Nat} {ls : List Nat} {D : List Int} (h : DI zs x ls ls.length [] D) (hok : LvOk zs x 0 ls) : D = dsL zs x := by
  refine ext_el (by rw [dsL_length]; exact h.1) fun w hw => ?_
  rw [h.1] at hw
  rw [dsL_at hw]
  by_cases hc : w ∈ ([] : List Nat) ∨ ∃ (j r : Nat), j < ls.length ∧ ls[j]? = some r ∧ r.testBit w = true
  · exact h.2.1 w hw hc
  · rw [h.2.2 w hw hc, hok.no]
    intro j r hr
    cases hb : r.testBit w with
    | false => rfl
    | true => exact absurd (.inr ⟨j, r, (List.getElem?_eq_some_iff.1 hr).1, hr, hb⟩) hc

set_option maxRecDepth 100000 in
set_option maxHeartbeats 1000000 in
theorem di_in (b off cap : Nat) (zs : List Int) (x : Nat) (w : World) (hb : b < w.heap.size) (hc : Cells w b off zs) (hg : isG zs.length zs = true) (hx : x < zs.length) (hT : Tab w) :
    CallsIn Fence.wide 5 Tryd.prog 35 #[.agg #[.int .i64 zs.length, .slice (some ⟨b, off, none⟩) zs.length cap], .int .i64 x] w fun e w' => LRes w.heap.size (dsL zs x) 0 e w' ∧ Below w.heap.size w w' := by
  have D0 : Below w.heap.size w ((w.alloc (.cells #[.int .i64 zs.length, .slice (some ⟨b, off, none⟩) zs.length cap] 28)).alloc (.cells #[.int .i64 x] 2)) := ((Below.refl _ _).alloc (Nat.le_refl _) _).alloc (by simp) _
  have hx1 := cell_one_new (w.alloc (.cells #[.int .i64 zs.length, .slice (some ⟨b, off, none⟩) zs.length cap] 28)) (.int .i64 x) 2
  rw [World.size_alloc] at hx1
  have hv := chk_some zs.length b off cap zs (w.heap.size + 1) 0 1 [(x : Int)] _ (Nat.lt_of_lt_of_le hb D0.size) (hc.below D0 hb) (by simp) (cells_one (hx1 0 _ rfl)) hg (by have := isG_parts hg; omega) (by simp) (hT.belowAll D0)
  obtain ⟨g1, g2, -, -, -⟩ := isG_parts hg
  rw [vc_yes (by rw [show [(x : Int)].length = 1 from rfl, vs_one]; simp; omega)] at hv
  have HG0 := Lib.hid (GBox.new (n := zs.length) (cap := cap) hb hc)
  have HG := Lib.hid hg
  have hm62 : zs.length ≤ 62 := by omega
  have HT := Lib.hid (hT.belowAll D0)
  have hmk := run_mkInts zs.length (by omega)
  have HTL := hT.lt
  have HTL := hT.lt
  have HTL := hT.lt
  have HTL := hT.lt
  clear hc hg hx1 hT
  refine callsIn_of_wp_marks Tryd.func35 rfl trivial ?_ rfl
  simp only [Tryd.ntmps35, List.size_toArray, List.length_cons, List.length_nil, Nat.reduceAdd, Nat.reduceSub, Array.replicate_succ, Array.replicate_zero, List.push_toArray, List.append_toArray, List.nil_append, List.cons_append]
  gi_wp2_with (refine ⟨trivial, ?_⟩; gi_at_call 63; refine (callsIn_wide.2 hv).mono ?_; rintro e w1 ⟨rfl, hb1⟩; have G1 := HG0.out.below (((Below.refl (w.heap.size + 1) (w.alloc (.cells #[.int .i64 zs.length, .slice (some ⟨b, off, none⟩) zs.length cap] 28))).alloc (by simp) (.cells #[.int .i64 x] 2)).trans (hb1.mono (by simp))); have b0 := G1.b0; have b1 := G1.b1; have l1 := G1.lt)
  clear hmk hv
  have D1 : Below w.heap.size w w1 := D0.trans (hb1.mono (by simp; omega))
  have T1 := Lib.hid (HT.out.belowAll hb1)
  have GC := Lib.hid G1
  clear hb1 b0 b1 G1
  refine wpIn_loop (fun a W => ∃ (k : Nat) (D : List Int) (u8 u25 u26 u27 u28 u29 u30 : Value), a = { tmps := #[.agg #[.int .i64 zs.length, .slice (some ⟨b, off, none⟩) zs.length cap], .int .i64 x, .pointer (some ⟨w.heap.size, 0, none⟩), undef, .slice none 0 0, .int .i64 0, .int .i64 0, .pointer (some ⟨w1.heap.size + 1, 0, none⟩), u8, undef, undef, undef, .agg #[.int .i64 zs.length, .slice (some ⟨b, off, none⟩) zs.length cap], .int .i64 x, .slice (some ⟨w.heap.size + 1, 0, none⟩) 1 1, .int .i64 0, .int .i64 0, .bool false, undef, .pointer (some ⟨w.heap.size, 0, none⟩), .int .i64 zs.length, .slice (some ⟨w1.heap.size, 0, none⟩) zs.length zs.length, .slice (some ⟨w1.heap.size, 0, none⟩) zs.length zs.length, .int .i64 zs.length, .int .i64 k, u25, u26, u27, u28, u29, u30, undef, undef, undef, undef, undef, undef, undef, undef, undef, undef, undef, undef, undef, undef, undef, undef, undef, undef], defers := [] } ∧ k ≤ zs.length ∧ D.length = zs.length ∧ (∀ i, i < k → el D i = -1) ∧ Blk W w1.heap.size D ∧ W.heap[w1.heap.size + 1]? = some (.cells #[.slice (some ⟨w1.heap.size, 0, none⟩) zs.length zs.length] 22 (0, 0)) ∧ Below w1.heap.size w1 W) (fun a _ => zs.length - (intOf (a.tmps.getD 24 undef)).toNat) ?h0 ?round
  case h0 =>
    exact ⟨0, List.replicate zs.length 0, _, _, _, _, _, _, _, rfl, Nat.zero_le _, by simp, fun i hi => absurd hi (by omega), (Blk.new w1 _).alloc _, heap_new_at (w1.alloc (.cells (intsA (List.replicate zs.length 0)) 2)) _ (w1.heap.size + 1) (by simp), ((Below.refl _ _).alloc (Nat.le_refl _) _).alloc (by simp) _⟩
  case round =>
    rintro a W ⟨k, D, u8, u25, u26, u27, u28, u29, u30, rfl, hk, hDl, hD1, hD, hX, hB⟩
    have HX := Lib.hid hX
    have cX : W.cell? ⟨w1.heap.size + 1, 0, none⟩ = some (.slice (some ⟨w1.heap.size, 0, none⟩) zs.length zs.length) := by rw [cell_of_row W _ 0 _ _ _ hX]; rfl
    by_cases hlt : (k : Int) < zs.length
    · have hkl : k < zs.length := by omega
      have hk0 : (0 : Int) ≤ k := by omega
      have cD := hD.cell (i := k) (by omega)
      have fD := hD.frozen k
      have hD2 := Lib.hid (hD.set k (-1))
      clear hX
      gi_wp2
      refine ⟨⟨k + 1, D.set k (-1), _, _, _, _, _, _, _, rfl, by omega, by rw [List.length_set]; exact hDl, fun i hi => ?_, hD2.out, ?_, hB.setCell (p := ⟨w1.heap.size, k, none⟩) (Nat.le_refl _) _⟩, ?_⟩
      · by_cases e : i = k
        · rw [e, elSet_eq (by omega)]
        · rw [elSet_ne e]; exact hD1 i (by omega)
      · exact (Below.heap_setCell _ _ _ _ (by simp)).trans HX.out
      · simp [intOf]; omega
    · have hkl : k = zs.length := by omega
      have hcall := levelRows_zero zs.length b off cap zs x W (GC.out.below (hB.mono l1)).lb (GC.out.below (hB.mono l1)).cells (T1.out.below hB T1.out.lt) HG.out hx
      have b0 := (GC.out.below (hB.mono l1)).b0
      have b1 := (GC.out.below (hB.mono l1)).b1
      have HDB := Lib.hid hD
      clear hX hD
      gi_wp2_with (refine ⟨trivial, ?_⟩; gi_at_call 64; refine (callsIn_wide.2 hcall).mono ?_; rintro e w2 ⟨ls, gl, capl, rfl, hown, hok, hpos, hb2⟩)
      have hwB := hB.size
      have HOWN := Lib.hid (ownsRow_base hown (B' := w.heap.size) (by have := D1.size; omega))
      have HOK := Lib.hid hok
      have hlen := hok.len
      have B2 : Below w1.heap.size w1 w2 := hB.trans (hb2.mono hwB)
      have HD0 : Hid (DI zs x ls 0 [] D) := DI.zero hDl (fun i hi => hD1 i (by omega))
      have hs1 : w1.heap.size + 1 < W.heap.size := by have := (Array.getElem?_eq_some_iff.1 HX.out).1; exact this
      have hs2 : W.heap.size ≤ w2.heap.size := hb2.size
      have HD2 := Lib.hid (HDB.out.belowAll hb2)
      have HX2 : Hid (w2.heap[w1.heap.size + 1]? = some (.cells #[.slice (some ⟨w1.heap.size, 0, none⟩) zs.length zs.length] 22 (0, 0))) := (hb2.block _ hs1).trans HX.out
      have hgl : gl < w2.heap.size := (World.ownsRow.lt hown gl rfl).2
      have hgl0 : w1.heap.size < gl := by have := (World.ownsRow.lt hown gl rfl).1; omega
      have T2 := Lib.hid (T1.out.below B2 T1.out.lt)
      clear hown hok hb2 b0 b1 hcall cX HX HDB
      refine wpIn_loop (fun a W => ∃ (k : Nat) (D : List Int) (Ds : List Nat) (u9 u10 u11 u36 u37 u38 u39 u40 u41 u42 u43 u44 u45 u46 u47 u48 : Value), a = { tmps := #[.agg #[.int .i64 zs.length, .slice (some ⟨b, off, none⟩) zs.length cap], .int .i64 x, .pointer (some ⟨w.heap.size, 0, none⟩), undef, .slice none 0 0, .int .i64 0, .int .i64 0, .pointer (some ⟨w1.heap.size + 1, 0, none⟩), u8, u9, u10, u11, .agg #[.int .i64 zs.length, .slice (some ⟨b, off, none⟩) zs.length cap], .int .i64 x, .slice (some ⟨w.heap.size + 1, 0, none⟩) 1 1, .int .i64 0, .int .i64 0, .bool false, undef, .pointer (some ⟨w.heap.size, 0, none⟩), .int .i64 zs.length, .slice (some ⟨w1.heap.size, 0, none⟩) zs.length zs.length, .slice (some ⟨w1.heap.size, 0, none⟩) zs.length zs.length, .int .i64 zs.length, .int .i64 zs.length, .bool false, u26, u27, u28, u29, u30, .agg #[.int .i64 zs.length, .slice (some ⟨b, off, none⟩) zs.length cap], .int .i64 x, .slice (some ⟨gl, 0, none⟩) ls.length capl, .int .i64 ls.length, .int .i64 k, u36, u37, u38, u39, u40, u41, u42, u43, u44, u45, u46, u47, u48], defers := marks Ds } ∧ k ≤ ls.length ∧ DI zs x ls k [] D ∧ Blk W w1.heap.size D ∧ W.heap[w1.heap.size + 1]? = some (.cells #[.slice (some ⟨w1.heap.size, 0, none⟩) zs.length zs.length] 22 (0, 0)) ∧ W.ownsRow w.heap.size 2 1 (.slice (some ⟨gl, 0, none⟩) ls.length capl) ls.length (natsV ls) ∧ Below w1.heap.size w1 W ∧ DsOk w2.heap.size W Ds ∧ w2.heap.size ≤ W.heap.size) (fun a _ => ls.length - (intOf (a.tmps.getD 35 undef)).toNat) ?h0b ?roundb
      case h0b =>
        exact ⟨0, D, [], _, _, _, _, _, _, _, _, _, _, _, _, _, _, _, _, rfl, Nat.zero_le _, HD0.out, HD2.out, HX2.out, HOWN.out, B2, ⟨List.nodup_nil, by simp⟩, Nat.le_refl _⟩
      case roundb =>
        rintro a W3 ⟨k2, D3, Ds, u9, u10, u11, u36, u37, u38, u39, u40, u41, u42, u43, u44, u45, u46, u47, u48, rfl, hk2, hDI, hDb, hXb, hOb, hBb, hDs, hsz3⟩
        have cX : W3.cell? ⟨w1.heap.size + 1, 0, none⟩ = some (.slice (some ⟨w1.heap.size, 0, none⟩) zs.length zs.length) := by rw [cell_of_row W3 _ 0 _ _ _ hXb]; rfl
        by_cases hlt2 : (k2 : Int) < ls.length
        · have hkl2 : k2 < ls.length := by omega
          have hk20 : (0 : Int) ≤ k2 := by omega
          obtain ⟨r, hr⟩ : ∃ r, ls[k2]? = some r := ⟨_, List.getElem?_eq_getElem hkl2⟩
          have hcl : W3.cell? ⟨gl, k2, none⟩ = some (.int .i64 (r : Int)) := (World.ownsRow.cellAt hOb k2 (by omega)).trans (natsV_at hr)
          have hr62 := pow_small (HOK.out.bit k2 r hr).1 hm62
          have HR := Lib.hid hr
          have HDB := Lib.hid hDb; have HXB := Lib.hid hXb; have HOB := Lib.hid hOb; have HDI := Lib.hid hDI
          clear hDb hXb hOb hDI hr
          gi_wp2_with (refine ⟨trivial, ?_⟩; gi_at_call 65; refine (callsIn_wide.2 (membersOf_any _ _)).mono ?_; rintro e w' ⟨rfl, rfl⟩)
          have hs3 : w2.heap.size ≤ W3.heap.size := hsz3
          obtain ⟨W4, hW4⟩ : ∃ W4, W4 = (W3.alloc (.cells #[.int .i64 k2] 3)).alloc (.cells #[.int .i64 r] 2) := ⟨_, rfl⟩
          refine at_world (w' := W4) ?_ hW4.symm
          have hs4 : W4.heap.size = W3.heap.size + 2 := by rw [hW4]; simp
          have hb4 : Boxed W4 W3.heap.size 3 (.int .i64 k2) := by rw [hW4]; exact (Boxed.new W3 3 _).alloc _
          have hc4 : W4.cell? ⟨W3.heap.size + 1, 0, none⟩ = some (.int .i64 r) := by rw [hW4]; have := World.cell?_alloc_new (w := W3.alloc (.cells #[.int .i64 k2] 3)) #[.int .i64 r] 2 0; rw [World.size_alloc] at this; rw [this]; rfl
          have hB34 : Below W3.heap.size W3 W4 := by rw [hW4]; exact ((Below.refl _ _).alloc (Nat.le_refl _) _).alloc (by simp) _
          have hB4 : Below w1.heap.size w1 W4 := hBb.trans (hB34.mono (by have := hBb.size; omega))
          have hT4 : Tab W4 := T1.out.below hB4 T1.out.lt
          have hD4 : Blk W4 w1.heap.size D3 := HDB.out.belowAll hB34
          have hX4 : W4.heap[w1.heap.size + 1]? = some (.cells #[.slice (some ⟨w1.heap.size, 0, none⟩) zs.length zs.length] 22 (0, 0)) := (hB34.block _ (Array.getElem?_eq_some_iff.1 HXB.out).1).trans HXB.out
          have hO4 : W4.ownsRow w.heap.size 2 1 (.slice (some ⟨gl, 0, none⟩) ls.length capl) ls.length (natsV ls) := ownsRow_below HOB.out hB34
          have hDs4 : DsOk w2.heap.size W4 Ds := hDs.kept fun Dd hDd => hB34.block Dd (Array.getElem?_eq_some_iff.1 (hDs.2 Dd hDd).2).1
          refine wpIn_rangeFunc_ownF rfl (by omega) (gf := 80) (lb := #[.pointer (some ⟨W3.heap.size + 1, 0, none⟩)]) rfl trivial (enters_of Tryd.func80 (by kernel_rfl) rfl)
            (members_stops 4 (by omega) (W3.heap.size + 1) w.heap.size r (by omega) W4 (by omega) hc4 hT4 HTL) belowK_t (belowK_b (by omega)) (Below.refl _ _) (fun _ => rfl)
            (fun pre W' => (∃ D, DI zs x ls k2 pre.unattach D ∧ Blk W' w1.heap.size D) ∧ Boxed W' W3.heap.size 3 (.int .i64 k2) ∧ W'.heap[w1.heap.size + 1]? = some (.cells #[.slice (some ⟨w1.heap.size, 0, none⟩) zs.length zs.length] 22 (0, 0)) ∧ W'.ownsRow w.heap.size 2 1 (.slice (some ⟨gl, 0, none⟩) ls.length capl) ls.length (natsV ls) ∧ (∀ Dd, Dd ∈ Ds → W'.heap[Dd]? = some (.deferred (some []))) ∧ Below w1.heap.size w1 W' ∧ W4.heap.size ≤ W'.heap.size)
            (fun _ _ _ => False)
            ?hI (fun _ _ _ _ _ hs _ _ => hs) ?h0c (fun y => { tmps := #[.agg #[.int .i64 zs.length, .slice (some ⟨b, off, none⟩) zs.length cap], .int .i64 x, .pointer (some ⟨w.heap.size, 0, none⟩), undef, .slice none 0 0, .int .i64 0, .int .i64 0, .pointer (some ⟨w1.heap.size + 1, 0, none⟩), u8, .pointer (some ⟨W3.heap.size, 0, none⟩), .int .i64 r, .int .i64 y.1, .agg #[.int .i64 zs.length, .slice (some ⟨b, off, none⟩) zs.length cap], .int .i64 x, .slice (some ⟨w.heap.size + 1, 0, none⟩) 1 1, .int .i64 0, .int .i64 0, .bool false, undef, .pointer (some ⟨w.heap.size, 0, none⟩), .int .i64 zs.length, .slice (some ⟨w1.heap.size, 0, none⟩) zs.length zs.length, .slice (some ⟨w1.heap.size, 0, none⟩) zs.length zs.length, .int .i64 zs.length, .int .i64 zs.length, .bool false, u26, u27, u28, u29, u30, .agg #[.int .i64 zs.length, .slice (some ⟨b, off, none⟩) zs.length cap], .int .i64 x, .slice (some ⟨gl, 0, none⟩) ls.length capl, .int .i64 ls.length, .int .i64 k2, .bool true, .int .i64 k2, .pointer (some ⟨gl, k2, none⟩), .int .i64 r, .int .i64 r, .func (.func 80) #[] #[.pointer (some ⟨W3.heap.size + 1, 0, none⟩)], .int .i64 y.1, u43, u44, u45, u46, u47, u48], defers := [] }) ?assign ?body ?done ?stop
          case hI =>
            rintro pre A B row ⟨⟨D, hd1, hd2⟩, h2, h3, h4, h5, h6, h7⟩ hg hr
            refine ⟨⟨D, hd1, kept_block hg hr (by omega) hd2⟩, kept_block hg hr (by omega) h2, kept_block hg hr (by omega) h3, World.ownsRow.kept h4 hg (.inr (fun e => by have := (hr gl (by simpa [Value.ownBlock] using e.symm)).1; omega)), fun Dd hDd => kept_block hg hr ?_ (h5 Dd hDd), ?_, ?_⟩
            · exact (Array.getElem?_eq_some_iff.1 (hDs4.2 Dd hDd).2).1
            · exact h6.grown hg h6.size (fun k e => by have := (hr k e).1; omega)
            · exact Nat.le_trans h7 hg.size
          case h0c =>
            exact ⟨⟨D3, HDI.out, hD4⟩, hb4, hX4, hO4, fun Dd hDd => (hDs4.2 Dd hDd).2, hB4, Nat.le_refl _⟩
          case assign =>
            intro l y W K hK
            gi_wp2
            exact hK
          case body =>
            rintro l pre y W5 ⟨⟨D5, hI5, hD5⟩, hv5, hX5, hO5, hDs5, hB5, hsz5⟩ _
            have hyb := (mem_iff.1 y.2).2
            have hyn : y.1 < zs.length := by
              refine Nat.lt_of_not_le fun hle => ?_
              have h2 := Nat.testBit_lt_two_pow (Nat.lt_of_lt_of_le (HOK.out.bit k2 r HR.out).1 (Nat.pow_le_pow_right (show 0 < 2 by decide) hle))
              rw [h2] at hyb; cases hyb
            have cX5 : W5.cell? ⟨w1.heap.size + 1, 0, none⟩ = some (.slice (some ⟨w1.heap.size, 0, none⟩) zs.length zs.length) := by rw [cell_of_row W5 _ 0 _ _ _ hX5]; rfl
            have cv5 := hv5.cell
            have cD5 := hD5.cell (i := y.1) (by have := hI5.1; omega)
            have fD5 := hD5.frozen y.1
            have hy0 : (0 : Int) ≤ y.1 := by omega
            have hy1 : (y.1 : Int) < zs.length := by omega
            have HN := Lib.hid (hI5.step HOK.out hx HR.out hyn hyb)
            have HS := Lib.hid (hD5.set y.1 k2)
            have HX5 := Lib.hid hX5
            have HO5 := Lib.hid hO5
            clear hX5 hO5
            gi_wp2
            refine ⟨KeepsOthers.setCell _ _ _, (Below.refl _ _).setCell (p := ⟨w1.heap.size, y.1, none⟩) (by simp; omega) _, ⟨D5.set y.1 (k2 : Int), by rw [List.unattach_append]; exact HN.out, HS.out⟩, (Below.heap_setCell _ _ _ _ (by simp; omega)).trans hv5, (Below.heap_setCell _ _ _ _ (by simp)).trans HX5.out, World.ownsRow.kept HO5.out (grown_set ⟨rfl, rfl, rfl, Nat.le_refl _, fun _ _ _ => rfl⟩ w1.heap.size y.1 _) (.inr (by simp [Value.ownBlock]; omega)), fun Dd hDd => (Below.heap_setCell _ _ _ _ (by have := (hDs4.2 Dd hDd).1; simp; omega)).trans (hDs5 Dd hDd), hB5.setCell (p := ⟨w1.heap.size, y.1, none⟩) (by simp) _, by simpa using hsz5⟩
          case done =>
            rintro Dm ys W6 hDD rfl ⟨⟨D6, hI6, hD6⟩, hv6, hX6, hO6, hDs6, hB6, hsz6⟩ hK
            gi_wp2
            refine ⟨⟨k2 + 1, D6, Dm :: Ds, _, _, _, _, _, _, _, _, _, _, _, _, _, _, _, _, rfl, by omega, DI.next (by rw [show (memL r).unattach = mem r from memL_val r] at hI6; exact hI6) HR.out hm62, hD6, hX6, hO6, hB6, ?_, by omega⟩, ?_⟩
            · refine ⟨List.nodup_cons.2 ⟨fun hDD' => ?_, hDs4.1⟩, fun E hE => ?_⟩
              · have := (Array.getElem?_eq_some_iff.1 (hDs4.2 Dm hDD').2).1; omega
              · rcases List.mem_cons.1 hE with rfl | hE
                · exact ⟨by omega, hK⟩
                · exact ⟨(hDs4.2 E hE).1, hDs6 E hE⟩
            · simp [intOf]; omega
          case stop =>
            rintro D c pre W _ _ h _
            exact h.elim
        · have hk3 : k2 = ls.length := by omega
          have HF : Hid (D3 = dsL zs x) := by show _ = _; rw [hk3] at hDI; exact hDI.done HOK.out
          gi_wp2
          refine leaves_marks (H := w2.heap.size) Ds _ hDs fun W' hs hb' => ?_
          refine ⟨_, results_tmp2 rfl _ _ _, ⟨_, rfl, ?_⟩, D1.trans ((hBb.trans (hb'.mono (by omega))).mono D1.size)⟩
          have hD' : Blk W' w1.heap.size D3 := (hb'.block _ (by omega)).trans hDb
          rw [HF.out] at hD'
          have := Own.of_blk hD' (B := w.heap.size) D1.size (by rw [dsL_length]; unfold maxLen; omega)
          rw [dsL_length] at this
          exact this

theorem implDi_yes (n : Int) (b off cap : Nat) (zs : List Int) (x : Nat) (w : World) (hb : b < w.heap.size) (hc : Cells w b off zs) (hg : isG n zs = true) (hx : x < zs.length) (_ : zs.length ≤ 9223372036854775807) (hT : Tab w) :
    Calls Tryd.prog 35 #[.agg #[.int .i64 n, .slice (some ⟨b, off, none⟩) zs.length cap], .int .i64 x] w fun e w' => LRes w.heap.size (dsL zs x) 0 e w' ∧ Below w.heap.size w w' := by
  obtain rfl : (zs.length : Int) = n := (isG_parts hg).2.2.1
  exact callsIn_wide.1 (di_in b off cap zs x w hb hc hg hx hT)

set_option maxHeartbeats 800000 in
theorem implDi_out (n : Int) (b off cap : Nat) (zs : List Int) (x : Int) (w : World) (hb : b < w.heap.size) (hc : Cells w b off zs) (hg : isG n zs = true) (hx : (decide (0 ≤ x) && decide (x ≤ n - 1)) = false) (hl : zs.length ≤ 9223372036854775807) (hT : Tab w) :
    Calls Tryd.prog 35 #[.agg #[.int .i64 n, .slice (some ⟨b, off, none⟩) zs.length cap], .int .i64 x] w fun e w' => LRes w.heap.size [] 2 e w' ∧ Below w.heap.size w w' := by
  have D0 : Below w.heap.size w ((w.alloc (.cells #[.int .i64 n, .slice (some ⟨b, off, none⟩) zs.length cap] 28)).alloc (.cells #[.int .i64 x] 2)) := ((Below.refl _ _).alloc (Nat.le_refl _) _).alloc (by simp) _
  have hx1 := cell_one_new (w.alloc (.cells #[.int .i64 n, .slice (some ⟨b, off, none⟩) zs.length cap] 28)) (.int .i64 x) 2
  rw [World.size_alloc] at hx1
  have hv := chk_some n b off cap zs (w.heap.size + 1) 0 1 [x] _ (Nat.lt_of_lt_of_le hb D0.size) (hc.below D0 hb) (by simp) (cells_one (hx1 0 _ rfl)) hg hl (by simp) (hT.belowAll D0)
  rw [vc_no (by rw [show [x].length = 1 from rfl, vs_one]; exact hx)] at hv
  clear hc hg hx1 hx hT
  go_enter Tryd.func35, Tryd.ntmps35
  go_wp2_with fail
  refine hv.mono ?_
  rintro e w1 ⟨rfl, hb1⟩
  have D1 := D0.trans (hb1.mono (by simp; omega))
  clear hb1 hv
  go_wp2
  go_ret2
  exact ⟨⟨_, rfl, Own.nil _ _⟩, D1⟩

set_option maxHeartbeats 800000 in
theorem implDi_no (n : Int) (v : Value) (zs : List Int) (x : Int) (w : World) (h : Sl w v zs) (hg : isG n zs = false) (hl : zs.length ≤ 9223372036854775807) (hT : Tab w) :
    Calls Tryd.prog 35 #[.agg #[.int .i64 n, v], .int .i64 x] w fun e w' => LRes w.heap.size [] 1 e w' ∧ Below w.heap.size w w' := by
  have D0 : Below w.heap.size w ((w.alloc (.cells #[.int .i64 n, v] 28)).alloc (.cells #[.int .i64 x] 2)) := ((Below.refl _ _).alloc (Nat.le_refl _) _).alloc (by simp) _
  have hv := fun u => chk_no n v u zs _ (h.below D0) hg hl (hT.belowAll D0)
  clear h hg hT
  go_enter Tryd.func35, Tryd.ntmps35
  go_wp2_with fail
  refine (hv _).mono ?_
  rintro e w1 ⟨rfl, hb1⟩
  have D1 := D0.trans (hb1.mono (by simp; omega))
  clear hb1 hv
  go_wp2
  go_ret2
  exact ⟨⟨_, rfl, Own.nil _ _⟩, D1⟩

theorem implDi_any (n : Int) (v : Value) (zs : List Int) (x : Int) (w : World) (h : Sl w v zs) (hl : zs.length ≤ 9223372036854775807) (hT : Tab w) :
    Calls Tryd.prog 35 #[.agg #[.int .i64 n, v], .int .i64 x] w fun e w' => LRes w.heap.size (g1L dsL n zs x) (NC n zs x) e w' ∧ Below w.heap.size w w' := by
  cases hg : isG n zs
  · rw [show g1L dsL n zs x = [] by simp [g1L, hg], show NC n zs x = 1 by simp [NC, hg]]
    exact implDi_no n v zs x w h hg hl hT
  · obtain ⟨h1, _, h3, _⟩ := isG_parts hg
    obtain ⟨b, off, cap, rfl, hb, hc⟩ := sl_some h (by omega)
    cases hx : (decide (0 ≤ x) && decide (x ≤ n - 1))
    · rw [show g1L dsL n zs x = [] by simp [g1L, hg, hx], show NC n zs x = 2 by simp [NC, hg, hx]]
      exact implDi_out n b off cap zs x w hb hc hg hx hl hT
    · rw [show g1L dsL n zs x = dsL zs x.toNat by simp [g1L, hg, hx], show NC n zs x = 0 by simp [NC, hg, hx]]
      simp only [Bool.and_eq_true, decide_eq_true_eq] at hx
      obtain ⟨k, rfl⟩ := Int.eq_ofNat_of_zero_le hx.1
      exact implDi_yes n b off cap zs k w hb hc hg (by omega) hl hT
end Go.Proofs.YtjlilffilbbocaaDoor
