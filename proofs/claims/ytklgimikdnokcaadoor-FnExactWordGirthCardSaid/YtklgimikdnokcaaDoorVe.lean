/-
  impl.productsOneLetterOn. (A tied seat of groups.)
-/
import Derived.Test.YtklgimikdnokcaaDoorVd
import Derived.Test.YtklgimikdnokcaaDoorRr
namespace Go.Proofs.YtklgimikdnokcaaDoor
set_option maxRecDepth 100000
open Go.RowKit Go.Shelf

attribute [local go_sem] Oper.semAt_some
theorem wide_fnV (f : FuncId) : Fence.wide.fn f = True := rfl
attribute [local go_sem] wide_fnV

set_option maxRecDepth 100000 in
set_option maxHeartbeats 1600000 in
theorem olo_nil_0 (p : Nat) (a1 a2 : Option Addr) (c1 c2 : Nat) (w : World) :
    CallsIn Fence.wide 5 Tryd.prog 50 #[.iface 84 (.agg #[.int .i64 p]), .slice a1 0 c1, .slice a2 0 c2] w fun e w' => (∃ u, e = .returned u ∧ Own w' w.heap.size u []) ∧ Below w.heap.size w w' := by
  have hmk := run_mkInts 0 (by omega)
  simp only [Int.natCast_zero] at hmk
  refine callsIn_of_wp_marks Tryd.func50 rfl trivial ?_ rfl
  simp only [Tryd.ntmps50, List.size_toArray, List.length_cons, List.length_nil, Nat.reduceAdd, Nat.reduceSub, Array.replicate_succ, Array.replicate_zero, List.push_toArray, List.append_toArray, List.nil_append, List.cons_append]
  gi_wp2_with fail
  obtain ⟨W3, hW3⟩ : ∃ W3, W3 = ((w.alloc (.cells #[.iface 84 (.agg #[.int .i64 p])] 48)).alloc (.cells (intsA (List.replicate 0 0)) 2)).alloc (.cells #[.slice (some ⟨w.heap.size + 1, 0, none⟩) 0 0] 24) := ⟨_, rfl⟩
  refine at_world (w' := W3) ?_ hW3.symm
  have hk : Blk W3 (w.heap.size + 1) [] := by rw [hW3]; exact heap_old_at (heap_new_at (w.alloc (.cells #[.iface 84 (.agg #[.int .i64 p])] 48)) (.cells (intsA (List.replicate 0 0)) 2) (w.heap.size + 1) (by simp)) _
  have hx : Boxed W3 (w.heap.size + 1 + 1) 24 (.slice (some ⟨w.heap.size + 1, 0, none⟩) 0 0) := by rw [hW3]; exact heap_new_at ((w.alloc (.cells #[.iface 84 (.agg #[.int .i64 p])] 48)).alloc (.cells (intsA (List.replicate 0 0)) 2)) (.cells #[.slice (some ⟨w.heap.size + 1, 0, none⟩) 0 0] 24) (w.heap.size + 1 + 1) (by simp)
  have hE : Below w.heap.size w W3 := by rw [hW3]; exact (((Below.refl _ _).alloc (Nat.le_refl _) _).alloc (by simp) _).alloc (by simp; omega) _
  have hsz : w.heap.size + 3 ≤ W3.heap.size := by rw [hW3]; simp
  clear hW3 hmk
  refine wpIn_loop (fun a W => a = { tmps := #[.iface 84 (.agg #[.int .i64 p]), .slice a1 0 c1, .slice a2 0 c2, .pointer (some ⟨w.heap.size, 0, none⟩), undef, undef, .slice none 0 0, .pointer (some ⟨w.heap.size + 1 + 1, 0, none⟩), undef, undef, undef, undef, undef, undef, .slice a1 0 c1, .int .i64 0, .slice (some ⟨w.heap.size + 1, 0, none⟩) 0 0, .slice a1 0 c1, .int .i64 0, .int .i64 0, undef, undef, undef, undef, undef, undef, undef, undef, undef, undef, undef, undef, undef, undef, undef, undef, undef, undef, undef, undef, undef, undef, undef, undef, undef, undef, undef, undef, undef, undef, undef, undef, undef, undef, undef, undef, undef, undef, undef], defers := [] } ∧ W = W3) (fun _ _ => 0) ?h0 ?round
  case h0 => exact ⟨rfl, rfl⟩
  case round =>
    rintro a W ⟨rfl, rfl⟩
    have hc7 := hx.cell
    gi_wp2_with fail
    refine leaves_marks (H := w.heap.size + 3) [] _ ⟨List.nodup_nil, by simp⟩ fun W' hss hb' => ?_
    refine ⟨_, results_tmp rfl _ _ _, ⟨_, rfl, ?_⟩, hE.trans (hb'.mono (by omega))⟩
    exact Own.of_blk (L := []) (hk.below hb' (by omega)) (Nat.le_succ _) (by simp)

set_option maxRecDepth 100000 in
set_option maxHeartbeats 12800000 in
theorem olo_in_0 (p cap pcap b off pb po : Nat) (js : List Int) (L : Nat) (w : World) (h : gOk 0 p = true) (hj : elOk (gOrd 0 p) js js.length = true) (hb : b < w.heap.size) (hc : Cells w b off js) (hpb : pb < w.heap.size) (hpc : Cells w pb po (wgR 0 p js L)) (hl : js.length ≤ 62) (h0 : 0 < js.length) (hT : Tab w) :
    CallsIn Fence.wide 5 Tryd.prog 50 #[gIf 0 p, .slice (some ⟨b, off, none⟩) js.length cap, .slice (some ⟨pb, po, none⟩) js.length pcap] w fun e w' => (∃ u, e = .returned u ∧ Own w' w.heap.size u (wgR 0 p js (L + 1))) ∧ Below w.heap.size w w' := by
  have D0 : Below w.heap.size w (w.alloc (.cells #[.iface 84 (.agg #[.int .i64 p])] 48)) := (Below.refl _ _).alloc (Nat.le_refl _) _
  have HB0 := Lib.hid (World.alloc_heap_new w (.cells #[.iface 84 (.agg #[.int .i64 p])] 48))
  have hmk := run_mkInts js.length (by omega)
  have HJ := Lib.hid hj; have HC := Lib.hid hc; have HPC := Lib.hid hpc; have HG := Lib.hid h
  have HP := Lib.hid (fun x y W (hx : x < gOrd 0 p) (hy : y < gOrd 0 p) => product_0 p x y W h hx hy)
  have HML := Lib.hid (fun x y => @gMul_lt 0 p x y h)
  have HT := Lib.hid hT
  have hT0 := hT.lt
  have hn := gOrd_le h
  have HBk : Blk (((w.alloc (.cells #[.iface 84 (.agg #[.int .i64 p])] 48)).alloc (.cells (intsA (List.replicate js.length 0)) 2)).alloc (.cells #[.slice (some ⟨w.heap.size + 1, 0, none⟩) js.length js.length] 24)) (w.heap.size + 1) (List.replicate js.length 0) := heap_old_at (heap_new_at (w.alloc (.cells #[.iface 84 (.agg #[.int .i64 p])] 48)) (.cells (intsA (List.replicate js.length 0)) 2) (w.heap.size + 1) (by simp)) _
  have HBx : Boxed (((w.alloc (.cells #[.iface 84 (.agg #[.int .i64 p])] 48)).alloc (.cells (intsA (List.replicate js.length 0)) 2)).alloc (.cells #[.slice (some ⟨w.heap.size + 1, 0, none⟩) js.length js.length] 24)) (w.heap.size + 1 + 1) 24 (.slice (some ⟨w.heap.size + 1, 0, none⟩) js.length js.length) := heap_new_at ((w.alloc (.cells #[.iface 84 (.agg #[.int .i64 p])] 48)).alloc (.cells (intsA (List.replicate js.length 0)) 2)) (.cells #[.slice (some ⟨w.heap.size + 1, 0, none⟩) js.length js.length] 24) (w.heap.size + 1 + 1) (by simp)
  have HE : Below (w.heap.size + 1) (w.alloc (.cells #[.iface 84 (.agg #[.int .i64 p])] 48)) (((w.alloc (.cells #[.iface 84 (.agg #[.int .i64 p])] 48)).alloc (.cells (intsA (List.replicate js.length 0)) 2)).alloc (.cells #[.slice (some ⟨w.heap.size + 1, 0, none⟩) js.length js.length] 24)) := ((Below.refl _ _).alloc (by simp) _).alloc (by simp) _
  have HR : Hid (∀ W : World, Below (w.heap.size + 1) (w.alloc (.cells #[.iface 84 (.agg #[.int .i64 p])] 48)) W → W.cell? ⟨w.heap.size, 0, none⟩ = some (.iface 84 (.agg #[.int .i64 p]))) := fun W hW => by
    have h := (hW.block w.heap.size (by omega)).trans HB0.out
    rw [cell_of_row W _ 0 _ _ _ h]; rfl
  have HLE := Lib.hid (wgR_length 0 p js L)
  clear hj hc hpc h hT
  have hme : ∀ W : World, (method 214 84 (.agg #[.int .i64 p]) "loop.example/g01331/impl.product").run Tryd.prog W = .ok (86, .agg #[.int .i64 p]) W := fun _ => by kernel_rfl
  unfold gIf at *
  refine callsIn_of_wp_marks Tryd.func50 rfl trivial ?_ rfl
  simp only [Tryd.ntmps50, List.size_toArray, List.length_cons, List.length_nil, Nat.reduceAdd, Nat.reduceSub, Array.replicate_succ, Array.replicate_zero, List.push_toArray, List.append_toArray, List.nil_append, List.cons_append]
  gi_wp2_with fail
  refine wpIn_loop (fun a W => ∃ (j : Nat) (Ds : List Nat) (Q : List Int) (u8 u9 u10 u11 u12 u13 u20 u21 u22 u23 u24 u25 u26 u27 u28 u29 u30 u31 u32 u33 u34 u35 u36 u37 u38 u39 u40 u41 u42 u43 u44 u45 u46 u47 u48 u49 u50 u51 u52 u53 u54 u55 u56 u57 u58 : Value), a = { tmps := #[.iface 84 (.agg #[.int .i64 p]), .slice (some ⟨b, off, none⟩) js.length cap, .slice (some ⟨pb, po, none⟩) js.length pcap, .pointer (some ⟨w.heap.size, 0, none⟩), undef, undef, .slice none 0 0, .pointer (some ⟨w.heap.size + 1 + 1, 0, none⟩), u8, u9, u10, u11, u12, u13, .slice (some ⟨b, off, none⟩) js.length cap, .int .i64 js.length, .slice (some ⟨w.heap.size + 1, 0, none⟩) js.length js.length, .slice (some ⟨b, off, none⟩) js.length cap, .int .i64 js.length, .int .i64 j, u20, u21, u22, u23, u24, u25, u26, u27, u28, u29, u30, u31, u32, u33, u34, u35, u36, u37, u38, u39, u40, u41, u42, u43, u44, u45, u46, u47, u48, u49, u50, u51, u52, u53, u54, u55, u56, u57, u58], defers := marks Ds } ∧ j ≤ js.length ∧ Hid (QI 0 p js L j [] Q) ∧ Hid (Blk W (w.heap.size + 1) Q) ∧ Hid (Boxed W (w.heap.size + 1 + 1) 24 (.slice (some ⟨w.heap.size + 1, 0, none⟩) js.length js.length)) ∧ Below (w.heap.size + 1) (w.alloc (.cells #[.iface 84 (.agg #[.int .i64 p])] 48)) W ∧ DsOk (w.heap.size + 3) W Ds ∧ w.heap.size + 3 ≤ W.heap.size) (fun a _ => js.length - (intOf (a.tmps.getD 19 undef)).toNat) ?h0 ?round
  case h0 =>
    exact ⟨0, [], List.replicate js.length 0, _, _, _, _, _, _, _, _, _, _, _, _, _, _, _, _, _, _, _, _, _, _, _, _, _, _, _, _, _, _, _, _, _, _, _, _, _, _, _, _, _, _, _, _, _, rfl, Nat.zero_le _, QI.start _ _ _ _, HBk, HBx, HE, ⟨List.nodup_nil, by simp⟩, by simp⟩
  case round =>
    clear HBk HBx HE hmk
    rintro a W ⟨j, Ds, Q, u8, u9, u10, u11, u12, u13, u20, u21, u22, u23, u24, u25, u26, u27, u28, u29, u30, u31, u32, u33, u34, u35, u36, u37, u38, u39, u40, u41, u42, u43, u44, u45, u46, u47, u48, u49, u50, u51, u52, u53, u54, u55, u56, u57, u58, rfl, hjl, HQ, HBk, HBx, hE, hDs, hsz⟩
    have DW : Below w.heap.size w W := D0.trans (hE.mono (by omega))
    by_cases hlt : (j : Int) < js.length
    · have hjl2 : j < js.length := by omega
      have hj0 : (0 : Int) ≤ j := by omega
      have hz : W.cell? ⟨b, off + j, none⟩ = some (.int .i64 (el js j)) := (DW.cell (p := ⟨b, off + j, none⟩) hb).trans (HC.out j hjl2)
      have he := elOk_at HJ.out hjl2
      obtain ⟨y, hy⟩ := Int.eq_ofNat_of_zero_le he.1
      have hen : en js j = y := by unfold en; rw [hy]; rfl
      rw [hy] at hz he
      have hyn : y < gOrd 0 p := by omega
      have HEN := Lib.hid hen
      clear hy hen he
      have HDS := Lib.hid hDs
      have HDW := Lib.hid DW
      clear hDs DW
      gi_wp2_with fail
      obtain ⟨W1, hW1⟩ : ∃ W1, W1 = (W.alloc (.cells #[.int .i64 j] 3)).alloc (.cells #[.int .i64 y] 2) := ⟨_, rfl⟩
      refine at_world (w' := W1) ?_ hW1.symm
      have hb1 : Below W.heap.size W W1 := by rw [hW1]; exact ((Below.refl _ _).alloc (Nat.le_refl _) _).alloc (by simp) _
      have hs1 : W.heap.size + 2 ≤ W1.heap.size := by rw [hW1]; simp
      have HX8 : Hid (Boxed W1 W.heap.size 3 (.int .i64 j)) := by show Boxed _ _ _ _; rw [hW1]; exact (Boxed.new W 3 _).alloc _
      have HX9 : Hid (Boxed W1 (W.heap.size + 1) 2 (.int .i64 y)) := by show Boxed _ _ _ _; rw [hW1]; exact heap_new_at (W.alloc (.cells #[.int .i64 j] 3)) (.cells #[.int .i64 y] 2) (W.heap.size + 1) (by simp)
      have hE1 : Below (w.heap.size + 1) (w.alloc (.cells #[.iface 84 (.agg #[.int .i64 p])] 48)) W1 := hE.trans (hb1.mono (by omega))
      have HBk1 : Hid (Blk W1 (w.heap.size + 1) Q) := HBk.out.belowAll hb1
      have HBx1 : Hid (Boxed W1 (w.heap.size + 1 + 1) 24 (.slice (some ⟨w.heap.size + 1, 0, none⟩) js.length js.length)) := (hb1.block _ HBx.out.lt).trans HBx.out
      have HDs1 : Hid (DsOk (w.heap.size + 3) W1 Ds) := HDS.out.kept fun Dd hDd => hb1.block Dd (Array.getElem?_eq_some_iff.1 (HDS.out.2 Dd hDd).2).1
      clear hW1 HBk HBx HDS hz hE hb1
      gi_loopw [10, 26] (fun bf i wr => ∃ t : Nat, i = .int .i64 t ∧ t ≤ js.length ∧ bf = .int .i64 (befN 0 p js L j t : Nat) ∧ Below W1.heap.size W1 wr) (fun _ i _ => js.length - (intOf i).toNat)
      case atStart => exact ⟨0, rfl, Nat.zero_le _, by rw [befN_zero]; rfl, Below.refl _ _⟩
      case round =>
        obtain ⟨t, rfl, htl, rfl, hBW⟩ := hrel
        have hEw := hE1.trans (hBW.mono (by omega))
        have DW := D0.trans (hEw.mono (by omega))
        have r0 := HR.out wr hEw
        have r9 : wr.cell? ⟨W.heap.size + 1, 0, none⟩ = some (.int .i64 y) := (hBW.cell (p := ⟨W.heap.size + 1, 0, none⟩) (by simp; omega)).trans HX9.out.cell
        by_cases hlt2 : (t : Int) < js.length
        · have htl2 : t < js.length := by omega
          have ht0 : (0 : Int) ≤ t := by omega
          have hzt : wr.cell? ⟨b, off + t, none⟩ = some (.int .i64 (el js t)) := (DW.cell (p := ⟨b, off + t, none⟩) hb).trans (HC.out t htl2)
          have het := elOk_at HJ.out htl2
          obtain ⟨z, hzz⟩ := Int.eq_ofNat_of_zero_le het.1
          have hent : en js t = z := by unfold en; rw [hzz]; rfl
          rw [hzz] at hzt het
          have hzn : z < gOrd 0 p := by omega
          have hcon := HP.out z y wr hzn hyn
          have HPR : Hid (∀ w5 : World, Below wr.heap.size wr w5 → w5.cell? ⟨pb, po + t, none⟩ = some (.int .i64 (el (wgR 0 p js L) t))) := fun w5 h5 =>
            ((DW.trans (h5.mono DW.size)).cell (p := ⟨pb, po + t, none⟩) hpb).trans (HPC.out t (by rw [HLE.out]; exact htl2))
          have HFO : Hid (fol 0 p js t j = (gMul 0 p z y != 0)) := by show _ = _; unfold fol; rw [hent, HEN.out]
          obtain ⟨m, hm⟩ : ∃ m, m = gMul 0 p z y := ⟨_, rfl⟩
          rw [← hm] at hcon HFO
          clear hzz het hent hm
          by_cases hm0 : m = 0
          · have t1 : ((m : Int) != 0) = false := by simp; omega
            have HBF : Hid (befN 0 p js L j (t + 1) = befN 0 p js L j t) := befN_no (by rw [HFO.out]; simp; exact hm0)
            clear hm0
            gi_wp2_with (gi_at_call 86; with_reducible refine (callsIn_wide.2 hcon).mono ?_; rintro e w5 ⟨rfl, hb5⟩; have hBW5 := hBW.trans (hb5.mono hBW.size); clear hcon hzt r0 r9)
            go_roundw
            case rel => exact ⟨t + 1, by go_num, htl2, by rw [HBF.out], hBW5⟩
            case measure => simp [intOf]; omega
          · have t1 : ((m : Int) != 0) = true := by simp; omega
            have HBF := Lib.hid (befN_yes (k := 0) (p := p) (js := js) (L := L) (j := j) (t := t) HG.out htl2 (by rw [HFO.out]; simp; exact hm0))
            clear hm0
            gi_wp2_with (gi_at_call 86; with_reducible refine (callsIn_wide.2 hcon).mono ?_; rintro e w5 ⟨rfl, hb5⟩; have hBW5 := hBW.trans (hb5.mono hBW.size); have hpt := HPR.out w5 hb5; clear hcon hzt r0 r9)
            go_roundw
            case rel => exact ⟨t + 1, by go_num, htl2, by rw [← HBF.out], hBW5⟩
            case measure => simp [intOf]; omega
        · obtain rfl : t = js.length := by omega
          have HBF62 := befN_bd (k := 0) (p := p) (js := js) (L := L) (j := j) (t := js.length) HG.out
          obtain ⟨bf, hbf⟩ : ∃ bf, bf = befN 0 p js L j js.length := ⟨_, rfl⟩
          rw [← hbf] at HBF62 ⊢
          have HBF := Lib.hid hbf
          clear hbf r0 r9
          gi_wp2_with (gi_at_call 64; refine (callsIn_wide.2 (membersOf_any _ _)).mono ?_; rintro e w' ⟨rfl, rfl⟩)
          obtain ⟨Wm, hWm⟩ : ∃ Wm, Wm = wr.alloc (.cells #[.int .i64 bf] 2) := ⟨_, rfl⟩
          refine at_world (w' := Wm) ?_ hWm.symm
          have hsm : Wm.heap.size = wr.heap.size + 1 := by rw [hWm]; simp
          have hsw := hBW.size
          have hcm : Wm.cell? ⟨wr.heap.size, 0, none⟩ = some (.int .i64 bf) := by rw [hWm]; have := World.cell?_alloc_new (w := wr) #[.int .i64 bf] 2 0; rw [this]; rfl
          have hBm : Below W1.heap.size W1 Wm := by rw [hWm]; exact hBW.alloc hsw _
          have hEm := hE1.trans (hBm.mono (by omega))
          have hTm : Tab Wm := HT.out.belowAll (D0.trans (hEm.mono (by omega)))
          have hDsm : DsOk (w.heap.size + 3) Wm Ds := HDs1.out.kept fun Dd hDd => hBm.block Dd (Array.getElem?_eq_some_iff.1 (HDs1.out.2 Dd hDd).2).1
          clear hWm hEw DW hBW
          refine wpIn_rangeFunc_ownF rfl (by omega) (gf := 67) (lb := #[.pointer (some ⟨wr.heap.size, 0, none⟩)]) rfl trivial (enters_of Tryd.func67 (by kernel_rfl) rfl)
            (members_stops 4 (by omega) wr.heap.size w.heap.size bf (by omega) Wm (by omega) hcm hTm hT0) belowK_t (belowK_b (by omega)) (Below.refl _ _) (fun _ => rfl)
            (fun pre W' => ∃ Qp, Hid (QI 0 p js L j pre.unattach Qp) ∧ Hid (Blk W' (w.heap.size + 1) Qp) ∧ Hid (Boxed W' (w.heap.size + 1 + 1) 24 (.slice (some ⟨w.heap.size + 1, 0, none⟩) js.length js.length)) ∧ Hid (Boxed W' W.heap.size 3 (.int .i64 j)) ∧ Hid (Boxed W' (W.heap.size + 1) 2 (.int .i64 y)) ∧ Hid (∀ Dd, Dd ∈ Ds → W'.heap[Dd]? = some (.deferred (some []))) ∧ Below (w.heap.size + 1) (w.alloc (.cells #[.iface 84 (.agg #[.int .i64 p])] 48)) W' ∧ Wm.heap.size ≤ W'.heap.size)
            (fun _ _ _ => False)
            ?hI (fun _ _ _ _ _ hs _ _ => hs) ?h0c (fun x => { tmps := #[.iface 84 (.agg #[.int .i64 p]), .slice (some ⟨b, off, none⟩) js.length cap, .slice (some ⟨pb, po, none⟩) js.length pcap, .pointer (some ⟨w.heap.size, 0, none⟩), undef, undef, .slice none 0 0, .pointer (some ⟨w.heap.size + 1 + 1, 0, none⟩), .pointer (some ⟨W.heap.size, 0, none⟩), .pointer (some ⟨W.heap.size + 1, 0, none⟩), .int .i64 bf, u11, u12, .int .i64 x.1, .slice (some ⟨b, off, none⟩) js.length cap, .int .i64 js.length, .slice (some ⟨w.heap.size + 1, 0, none⟩) js.length js.length, .slice (some ⟨b, off, none⟩) js.length cap, .int .i64 js.length, .int .i64 j, .bool true, .int .i64 j, .pointer (some ⟨b, off + j, none⟩), .int .i64 y, .slice (some ⟨b, off, none⟩) js.length cap, .int .i64 js.length, .int .i64 js.length, .bool false, u28, u29, u30, u31, u32, u33, u34, u35, u36, u37, u38, u39, u40, u41, u42, .int .i64 bf, .func (.func 67) #[] #[.pointer (some ⟨wr.heap.size, 0, none⟩)], .int .i64 x.1, u46, u47, u48, u49, u50, u51, u52, u53, u54, u55, u56, u57, u58], defers := [] }) ?assign ?body ?done ?stop
          case hI =>
            rintro pre A B row ⟨Qp, h1, h2, h3, h4, h5, h6, h7, h8⟩ hg hr
            refine ⟨Qp, h1, kept_row hg hr (by omega) h2.out, kept_row hg hr (by omega) h3.out, kept_row hg hr (by omega) h4.out, kept_row hg hr (by omega) h5.out, fun Dd hDd => kept_row hg hr ?_ (h6.out Dd hDd), ?_, Nat.le_trans h8 hg.size⟩
            · exact (Array.getElem?_eq_some_iff.1 (hDsm.2 Dd hDd).2).1
            · exact h7.grown hg (by have := h7.size; simpa using this) (fun k e => by have := (hr k e).1; omega)
          case h0c =>
            exact ⟨Q, HQ, HBk1.out.belowAll hBm, (hBm.block _ HBx1.out.lt).trans HBx1.out, (hBm.block _ HX8.out.lt).trans HX8.out, (hBm.block _ HX9.out.lt).trans HX9.out, fun Dd hDd => (hDsm.2 Dd hDd).2, hEm, Nat.le_refl _⟩
          case assign =>
            intro l y W K hK
            gi_wp2
            exact hK
          case body =>
            rintro l pre x W5 ⟨Qp, hq, hk, hx, hx8, hx9, hd, hB5, hs5⟩ _
            have hxn : x.1 < gOrd 0 p := bef_lt (by rw [← HBF.out]; exact x.2)
            have hqc := hq.out.cur hjl2
            have hQl := hq.out.len
            obtain ⟨acc, hacc⟩ : ∃ acc, acc = accN 0 p js j pre.unattach := ⟨_, rfl⟩
            rw [← hacc] at hqc
            have HOR := Lib.hid (accN_or (k := 0) (p := p) (js := js) (j := j) (x := x.1) (pre := pre.unattach) HG.out)
            have hab := accN_bd (k := 0) (p := p) (js := js) (j := j) (pre := pre.unattach) HG.out
            rw [← hacc] at HOR hab
            rw [HEN.out] at HOR
            have HCO := Lib.hid (fun W => HP.out x.1 y W hxn hyn)
            have hml := HML.out x.1 y
            have hnx : List.unattach (pre ++ [x]) = pre.unattach ++ [x.1] := by rw [List.unattach_append]; rfl
            have HST := Lib.hid (hq.out.step (x := x.1) hjl2)
            rw [← hnx] at HST HOR
            have HNX := Lib.hid hnx
            obtain ⟨x0, hx0⟩ : ∃ x0 : Nat, x0 = x.1 := ⟨_, rfl⟩
            rw [← hx0] at HCO hml HOR ⊢
            obtain ⟨m, hm⟩ : ∃ m, m = gMul 0 p x0 y := ⟨_, rfl⟩
            rw [← hm] at HCO hml HOR
            have m0 : (0 : Int) ≤ m := by omega
            have m1 : (m : Int) < 62 := by omega
            have hwp : IntKind.i64.wrap ((2 : Int) ^ m) = 2 ^ m := by
              obtain ⟨q0, q1⟩ := pow_bounds m (by omega)
              exact IntWalk.i64_in _ (by omega)
            have HKB : Hid (∀ W' : World, Below W5.heap.size W5 W' → Blk W' (w.heap.size + 1) Qp ∧ Boxed W' (w.heap.size + 1 + 1) 24 (.slice (some ⟨w.heap.size + 1, 0, none⟩) js.length js.length) ∧ Boxed W' W.heap.size 3 (.int .i64 j) ∧ Boxed W' (W.heap.size + 1) 2 (.int .i64 y) ∧ (∀ Dd, Dd ∈ Ds → W'.heap[Dd]? = some (.deferred (some []))) ∧ Below (w.heap.size + 1) (w.alloc (.cells #[.iface 84 (.agg #[.int .i64 p])] 48)) W' ∧ Wm.heap.size ≤ W'.heap.size) := fun W' hW => by
              refine ⟨hk.out.belowAll hW, (hW.block _ hx.out.lt).trans hx.out, (hW.block _ hx8.out.lt).trans hx8.out, (hW.block _ hx9.out.lt).trans hx9.out, fun Dd hDd => (hW.block Dd (Array.getElem?_eq_some_iff.1 (hd.out Dd hDd)).1).trans (hd.out Dd hDd), hB5.trans (hW.mono (by omega)), Nat.le_trans hs5 hW.size⟩
            have HRD : Hid (∀ W' : World, Below W5.heap.size W5 W' → W'.cell? ⟨w.heap.size, 0, none⟩ = some (.iface 84 (.agg #[.int .i64 p])) ∧ W'.cell? ⟨w.heap.size + 1 + 1, 0, none⟩ = some (.slice (some ⟨w.heap.size + 1, 0, none⟩) js.length js.length) ∧ W'.cell? ⟨W.heap.size, 0, none⟩ = some (.int .i64 j) ∧ W'.cell? ⟨W.heap.size + 1, 0, none⟩ = some (.int .i64 y) ∧ W'.cell? ⟨w.heap.size + 1, j, none⟩ = some (.int .i64 acc) ∧ W'.frozen? ⟨w.heap.size + 1, j, none⟩ = false) := fun W' hW => by
              obtain ⟨g1, g2, g3, g4, -, g6, -⟩ := HKB.out W' hW
              exact ⟨HR.out W' g6, g2.cell, g3.cell, g4.cell, by rw [← hqc]; exact g1.cell (by rw [hQl]; exact hjl2), g1.frozen j⟩
            obtain ⟨c0, c2, c8, c9, ck, fk⟩ := HRD.out W5 (Below.refl _ _)
            have hjn : (j : Int) < js.length := hlt
            have hmx : Tryd.prog.follows Departure.mixedOrders = true := mixed_ng
            clear hk hx hx8 hx9 hd hq hqc hacc hnx hx0 hm hBm hEm hTm hDsm hcm
            gi_wp2
            refine region_round (fun w' => w'.cell? ⟨w.heap.size, 0, none⟩ = some (.iface 84 (.agg #[.int .i64 p])) ∧ w'.cell? ⟨w.heap.size + 1 + 1, 0, none⟩ = some (.slice (some ⟨w.heap.size + 1, 0, none⟩) js.length js.length) ∧ w'.cell? ⟨W.heap.size, 0, none⟩ = some (.int .i64 j) ∧ w'.cell? ⟨W.heap.size + 1, 0, none⟩ = some (.int .i64 y)) hmx (by kernel_rfl) ⟨c0, c2, c8, c9⟩ (fun hHeld => ?_)
            show wpAnyH _ _ _ _ _ 12 (Array.replicate 12 false) _ _
            refine wpAnyH_take (i := 0) (v := .slice (some ⟨w.heap.size + 1, 0, none⟩) js.length js.length) rfl (by kernel_rfl) (by kernel_rfl) (by kernel_rfl) (fun _ _ _ h => h) (Or.inl ⟨by rfl, fun Wt hSw => by go_split_ands; go_simp⟩) (by assumption) ?_
            simp only [List.getElem_toArray, List.getElem_cons_zero, Act.put, List.setIfInBounds_toArray, List.set_cons_zero, List.set_cons_succ]
            refine wpAnyH_take (i := 1) (v := .int .i64 j) rfl (by kernel_rfl) (by kernel_rfl) (by kernel_rfl) (fun _ _ _ h => h) (Or.inl ⟨by rfl, fun Wt hSw => by go_split_ands; go_simp⟩) (by assumption) ?_
            simp only [List.getElem_toArray, List.getElem_cons_zero, List.getElem_cons_succ, Act.put, List.setIfInBounds_toArray, List.set_cons_zero, List.set_cons_succ]
            refine wpAnyH_take (i := 2) (v := .pointer (some ⟨w.heap.size + 1, j, none⟩)) rfl (by kernel_rfl) (by kernel_rfl) (by kernel_rfl) (fun _ _ _ h => h) (Or.inl ⟨by rfl, fun Wt hSw => by go_split_ands; go_simp⟩) (by assumption) ?_
            simp only [List.getElem_toArray, List.getElem_cons_zero, List.getElem_cons_succ, Act.put, List.setIfInBounds_toArray, List.set_cons_zero, List.set_cons_succ]
            refine wpAnyH_take (i := 4) (v := .iface 84 (.agg #[.int .i64 p])) rfl (by kernel_rfl) (by kernel_rfl) (by kernel_rfl) (fun _ _ _ h => h) (Or.inl ⟨by rfl, fun Wt hSw => by go_split_ands; go_simp⟩) (by assumption) ?_
            simp only [List.getElem_toArray, List.getElem_cons_zero, List.getElem_cons_succ, Act.put, List.setIfInBounds_toArray, List.set_cons_zero, List.set_cons_succ]
            refine wpAnyH_take (i := 5) (v := .int .i64 x0) rfl (by kernel_rfl) (by kernel_rfl) (by kernel_rfl) (fun _ _ _ h => h) (Or.inl ⟨by rfl, fun Wt hSw => by go_split_ands; go_simp⟩) (by assumption) ?_
            simp only [List.getElem_toArray, List.getElem_cons_zero, List.getElem_cons_succ, Act.put, List.setIfInBounds_toArray, List.set_cons_zero, List.set_cons_succ]
            refine wpAnyH_take (i := 6) (v := .int .i64 y) rfl (by kernel_rfl) (by kernel_rfl) (by kernel_rfl) (fun _ _ _ h => h) (Or.inl ⟨by rfl, fun Wt hSw => by go_split_ands; go_simp⟩) (by assumption) ?_
            simp only [List.getElem_toArray, List.getElem_cons_zero, List.getElem_cons_succ, Act.put, List.setIfInBounds_toArray, List.set_cons_zero, List.set_cons_succ]
            refine wpAnyH_ready (rs := [3, 7]) (by kernel_rfl) (by simp) ?_
            refine AllReadyH.cons rfl (fun K hK => ?_) (AllReadyH.cons rfl (fun K hK => ?_) AllReadyH.nil)
            · skip
              go_simp
              refine hK.out _ _ ⟨c0, c2, c8, c9⟩ (fun hHeld => ?_)
              clear hK K
              refine wpAnyH_ready (rs := [7]) (by kernel_rfl) (by simp) ?_
              refine AllReadyH.cons rfl (fun K hK => ?_) AllReadyH.nil
              go_simp
              refine (HCO.out _).mono ?_
              rintro e w6 ⟨rfl, hb6⟩
              have B6 : Below W5.heap.size W5 w6 := ((Below.refl _ _).drew).trans (hb6.mono (by simp))
              obtain ⟨c0, c2, c8, c9, ck, fk⟩ := HRD.out w6 B6
              refine hK.out _ _ ⟨c0, c2, c8, c9⟩ (fun hHeld => ?_)
              clear hK K hb6
              refine wpAnyH_take (i := 8) (v := .int .i64 (2 ^ m)) rfl (by kernel_rfl) (by kernel_rfl) (by kernel_rfl) (fun _ _ _ h => h) (Or.inl ⟨by rfl, fun Wt hSw => by go_split_ands; go_simp⟩) (by assumption) ?_
              simp only [List.getElem_toArray, List.getElem_cons_zero, List.getElem_cons_succ, Act.put, List.setIfInBounds_toArray, List.set_cons_zero, List.set_cons_succ]
              refine wpAnyH_take (i := 9) (v := .int .i64 (bits .or .i64 (acc : Int) (2 ^ m))) rfl (by kernel_rfl) (by kernel_rfl) (by kernel_rfl) (fun _ _ _ h => h) (Or.inl ⟨by rfl, fun Wt hSw => by go_split_ands; go_simp⟩) (by assumption) ?_
              simp only [List.getElem_toArray, List.getElem_cons_zero, List.getElem_cons_succ, Act.put, List.setIfInBounds_toArray, List.set_cons_zero, List.set_cons_succ]
              refine wpAnyH_take (i := 10) (v := .pointer (some ⟨w.heap.size + 1, j, none⟩)) rfl (by kernel_rfl) (by kernel_rfl) (by kernel_rfl) (fun _ _ _ h => h) (Or.inl ⟨by rfl, fun Wt hSw => by go_split_ands; go_simp⟩) (by assumption) ?_
              simp only [List.getElem_toArray, List.getElem_cons_zero, List.getElem_cons_succ, Act.put, List.setIfInBounds_toArray, List.set_cons_zero, List.set_cons_succ]
              refine wpAnyH_ready (rs := [11]) (by kernel_rfl) (by simp) ?_
              refine AllReadyH.cons rfl (fun K hK => ?_) AllReadyH.nil
              go_simp
              refine hK.out _ _ ⟨(World.cell?_setCell_far _ _ _ _ (by simp)).trans c0, (World.cell?_setCell_far _ _ _ _ (by simp)).trans c2, (World.cell?_setCell_far _ _ _ _ (by simp; omega)).trans c8, (World.cell?_setCell_far _ _ _ _ (by simp; omega)).trans c9⟩ (fun hHeld => ?_)
              clear hK K
              refine wpAnyH_done (by kernel_rfl) ?_ _
              obtain ⟨g1, g2, g3, g4, g5, g6, g7⟩ := HKB.out w6 B6
              refine And.intro ?_ (And.intro ?_ ?_)
              · exact KeepsOthers.trans (B := w6) ⟨B6.size, fun k o hk _ => (B6.block k (Array.getElem?_eq_some_iff.1 hk).1).trans hk⟩ (KeepsOthers.setCell _ _ _)
              · exact (B6.mono (by omega)).setCell (p := ⟨w.heap.size + 1, j, none⟩) (by simp) _
              · exact ⟨_, HST.out, by show Blk _ _ _; rw [HOR.out]; exact g1.set j _, (Below.heap_setCell _ _ _ _ (by simp)).trans g2, (Below.heap_setCell _ _ _ _ (by simp; omega)).trans g3, (Below.heap_setCell _ _ _ _ (by simp; omega)).trans g4, fun Dd hDd => (Below.heap_setCell _ _ _ _ (by have := (HDs1.out.2 Dd hDd).1; simp; omega)).trans (g5 Dd hDd), g6.setCell (p := ⟨w.heap.size + 1, j, none⟩) (by simp) _, by simpa using g7⟩
            · 
              go_simp
              refine (HCO.out _).mono ?_
              rintro e w6 ⟨rfl, hb6⟩
              have B6 : Below W5.heap.size W5 w6 := ((Below.refl _ _).drew).trans (hb6.mono (by simp))
              obtain ⟨c0, c2, c8, c9, ck, fk⟩ := HRD.out w6 B6
              refine hK.out _ _ ⟨c0, c2, c8, c9⟩ (fun hHeld => ?_)
              clear hK K hb6
              refine wpAnyH_take (i := 8) (v := .int .i64 (2 ^ m)) rfl (by kernel_rfl) (by kernel_rfl) (by kernel_rfl) (fun _ _ _ h => h) (Or.inl ⟨by rfl, fun Wt hSw => by go_split_ands; go_simp⟩) (by assumption) ?_
              simp only [List.getElem_toArray, List.getElem_cons_zero, List.getElem_cons_succ, Act.put, List.setIfInBounds_toArray, List.set_cons_zero, List.set_cons_succ]
              refine wpAnyH_ready (rs := [3]) (by kernel_rfl) (by simp) ?_
              refine AllReadyH.cons rfl (fun K hK => ?_) AllReadyH.nil
              go_simp
              refine hK.out _ _ ⟨c0, c2, c8, c9⟩ (fun hHeld => ?_)
              clear hK K
              refine wpAnyH_take (i := 9) (v := .int .i64 (bits .or .i64 (acc : Int) (2 ^ m))) rfl (by kernel_rfl) (by kernel_rfl) (by kernel_rfl) (fun _ _ _ h => h) (Or.inl ⟨by rfl, fun Wt hSw => by go_split_ands; go_simp⟩) (by assumption) ?_
              simp only [List.getElem_toArray, List.getElem_cons_zero, List.getElem_cons_succ, Act.put, List.setIfInBounds_toArray, List.set_cons_zero, List.set_cons_succ]
              refine wpAnyH_take (i := 10) (v := .pointer (some ⟨w.heap.size + 1, j, none⟩)) rfl (by kernel_rfl) (by kernel_rfl) (by kernel_rfl) (fun _ _ _ h => h) (Or.inl ⟨by rfl, fun Wt hSw => by go_split_ands; go_simp⟩) (by assumption) ?_
              simp only [List.getElem_toArray, List.getElem_cons_zero, List.getElem_cons_succ, Act.put, List.setIfInBounds_toArray, List.set_cons_zero, List.set_cons_succ]
              refine wpAnyH_ready (rs := [11]) (by kernel_rfl) (by simp) ?_
              refine AllReadyH.cons rfl (fun K hK => ?_) AllReadyH.nil
              go_simp
              refine hK.out _ _ ⟨(World.cell?_setCell_far _ _ _ _ (by simp)).trans c0, (World.cell?_setCell_far _ _ _ _ (by simp)).trans c2, (World.cell?_setCell_far _ _ _ _ (by simp; omega)).trans c8, (World.cell?_setCell_far _ _ _ _ (by simp; omega)).trans c9⟩ (fun hHeld => ?_)
              clear hK K
              refine wpAnyH_done (by kernel_rfl) ?_ _
              obtain ⟨g1, g2, g3, g4, g5, g6, g7⟩ := HKB.out w6 B6
              refine And.intro ?_ (And.intro ?_ ?_)
              · exact KeepsOthers.trans (B := w6) ⟨B6.size, fun k o hk _ => (B6.block k (Array.getElem?_eq_some_iff.1 hk).1).trans hk⟩ (KeepsOthers.setCell _ _ _)
              · exact (B6.mono (by omega)).setCell (p := ⟨w.heap.size + 1, j, none⟩) (by simp) _
              · exact ⟨_, HST.out, by show Blk _ _ _; rw [HOR.out]; exact g1.set j _, (Below.heap_setCell _ _ _ _ (by simp)).trans g2, (Below.heap_setCell _ _ _ _ (by simp; omega)).trans g3, (Below.heap_setCell _ _ _ _ (by simp; omega)).trans g4, fun Dd hDd => (Below.heap_setCell _ _ _ _ (by have := (HDs1.out.2 Dd hDd).1; simp; omega)).trans (g5 Dd hDd), g6.setCell (p := ⟨w.heap.size + 1, j, none⟩) (by simp) _, by simpa using g7⟩
          case done =>
            rintro Dm ys W6 hDD rfl ⟨Qp, hq, hk, hx, hx8, hx9, hd, hB6, hs6⟩ hK
            have HQN : Hid (QI 0 p js L (j + 1) [] Qp) := QI.next HG.out hjl2 (by have := hq.out; rw [show (memL bf).unattach = mem bf from memL_val _, HBF.out] at this; exact this)
            have hDs7 : DsOk (w.heap.size + 3) W6 (Dm :: Ds) := by
              refine ⟨List.nodup_cons.2 ⟨fun hDD' => ?_, hDsm.1⟩, fun E hE => ?_⟩
              · have := (Array.getElem?_eq_some_iff.1 (hDsm.2 Dm hDD').2).1; omega
              · rcases List.mem_cons.1 hE with rfl | hE
                · exact ⟨by omega, hK⟩
                · exact ⟨(hDsm.2 E hE).1, hd.out E hE⟩
            gi_wp2
            refine ⟨⟨j + 1, Dm :: Ds, Qp, _, _, _, _, _, _, _, _, _, _, _, _, _, _, _, _, _, _, _, _, _, _, _, _, _, _, _, _, _, _, _, _, _, _, _, _, _, _, _, _, _, _, _, _, _, rfl, hjl2, HQN, hk, hx, hB6, hDs7, by omega⟩, ?_⟩
            simp [intOf]; omega
          case stop =>
            rintro D c pre W _ _ h _
            exact h.elim
    · obtain rfl : j = js.length := by omega
      have hc7 := HBx.out.cell
      have HQA := Lib.hid HQ.out.all
      gi_wp2_with fail
      refine leaves_marks (H := w.heap.size + 3) Ds _ hDs fun W' hss hb' => ?_
      refine ⟨_, results_tmp rfl _ _ _, ⟨_, rfl, ?_⟩, DW.trans (hb'.mono (by omega))⟩
      have hO := Own.of_blk (HBk.out.below hb' (by omega)) (Nat.le_succ _) (by rw [HQA.out, wgR_length]; unfold maxLen; omega)
      rw [HQA.out, wgR_length] at hO
      exact hO

theorem olo_0 (p : Nat) (v pv : Value) (js : List Int) (L : Nat) (w : World) (h : gOk 0 p = true) (hj : elOk (gOrd 0 p) js js.length = true) (hs : Sl w v js) (hp : Sl w pv (wgR 0 p js L)) (hl : js.length ≤ 62) (hT : Tab w) :
    Calls Tryd.prog 50 #[gIf 0 p, v, pv] w fun e w' => (∃ u, e = .returned u ∧ Own w' w.heap.size u (wgR 0 p js (L + 1))) ∧ Below w.heap.size w w' := by
  rcases hs with ⟨a, c, rfl, rfl⟩ | ⟨b, off, cap, rfl, hb, hc⟩
  · rcases hp with ⟨a2, c2, rfl, _⟩ | ⟨b2, off2, cap2, rfl, _, _⟩
    · exact callsIn_wide.1 (olo_nil_0 p _ _ _ _ w)
    · exact callsIn_wide.1 (olo_nil_0 p _ _ _ _ w)
  · have hle := wgR_length 0 p js L
    by_cases h0 : js.length = 0
    · obtain rfl := List.eq_nil_of_length_eq_zero h0
      rcases hp with ⟨a2, c2, rfl, _⟩ | ⟨b2, off2, cap2, rfl, _, _⟩
      · exact callsIn_wide.1 (olo_nil_0 p _ _ _ _ w)
      · exact callsIn_wide.1 (olo_nil_0 p _ _ _ _ w)
    · rcases hp with ⟨a2, c2, _, e⟩ | ⟨b2, off2, cap2, rfl, hb2, hc2⟩
      · rw [e] at hle; simp at hle; omega
      · rw [hle]
        exact callsIn_wide.1 (olo_in_0 p cap cap2 b off b2 off2 js L w h hj hb hc hb2 hc2 hl (by omega) hT)

end Go.Proofs.YtklgimikdnokcaaDoor

