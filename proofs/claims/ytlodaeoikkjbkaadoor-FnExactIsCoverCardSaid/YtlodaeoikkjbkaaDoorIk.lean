/-
  impl.IsCover: the loop.
-/
import Derived.Test.YtlodaeoikkjbkaaDoorIi
namespace Go.Proofs.YtlodaeoikkjbkaaDoor
set_option maxRecDepth 100000
open Go.RowKit Go.Shelf

attribute [local go_sem] Oper.semAt_some

theorem wide_fn (f : FuncId) : Fence.wide.fn f = True := rfl
attribute [local go_sem] wide_fn

set_option maxRecDepth 100000 in
set_option maxHeartbeats 12800000 in
theorem implIv_in (b0 o0 c0 b1 o1 c1 b2 o2 c2 : Nat) (zs hs vs : List Int) (w : World) (hb0 : b0 < w.heap.size) (hc0 : Cells w b0 o0 zs) (hb1' : b1 < w.heap.size) (hc1 : Cells w b1 o1 hs) (hb2' : b2 < w.heap.size) (hc2 : Cells w b2 o2 vs) (hg0 : isG zs.length zs = true) (hg1 : isG hs.length hs = true) (hle : vs.length = zs.length) (hvs : vsOk hs.length vs vs.length = true) (hT : Tab w) :
    CallsIn Fence.wide 5 Tryd.prog 21 #[.agg #[.int .i64 zs.length, .slice (some ⟨b0, o0, none⟩) zs.length c0], .agg #[.int .i64 hs.length, .slice (some ⟨b1, o1, none⟩) hs.length c1], .slice (some ⟨b2, o2, none⟩) zs.length c2] w fun e w' => e = .returned (.tuple #[.bool (ivB hs.length zs hs vs), .int .i64 0]) ∧ Below w.heap.size w w' := by
  have p0 := isG_parts hg0; have p1 := isG_parts hg1
  have q0 : zs.length ≤ 62 := by omega
  have q1 : hs.length ≤ 62 := by omega
  have D0 : Below w.heap.size w (((w.alloc (.cells #[.int .i64 zs.length, .slice (some ⟨b0, o0, none⟩) zs.length c0] 28)).alloc (.cells #[.int .i64 hs.length, .slice (some ⟨b1, o1, none⟩) hs.length c1] 28)).alloc (.cells #[.slice (some ⟨b2, o2, none⟩) zs.length c2] 22)) := ((((Below.refl _ _).alloc (Nat.le_refl _) _).alloc (by simp) _).alloc (by simp; omega) _)
  have his := implIs_some zs.length b0 o0 c0 zs (((w.alloc (.cells #[.int .i64 zs.length, .slice (some ⟨b0, o0, none⟩) zs.length c0] 28)).alloc (.cells #[.int .i64 hs.length, .slice (some ⟨b1, o1, none⟩) hs.length c1] 28)).alloc (.cells #[.slice (some ⟨b2, o2, none⟩) zs.length c2] 22)) (Nat.lt_of_lt_of_le hb0 D0.size) (hc0.below D0 hb0) (by omega) (hT.belowAll D0)
  rw [hg0] at his
  have HCK : Hid (∀ W, Below w.heap.size w W → Calls Tryd.prog 36 #[.agg #[.int .i64 hs.length, .slice (some ⟨b1, o1, none⟩) hs.length c1], .slice (some ⟨b2, o2, none⟩) zs.length c2] W fun e w' => e = .returned (.int .i64 0) ∧ Below W.heap.size W w') := fun W hW => by
    have h := chk_some hs.length b1 o1 c1 hs b2 o2 c2 vs W (Nat.lt_of_lt_of_le hb1' hW.size) (hc1.below hW hb1') (Nat.lt_of_lt_of_le hb2' hW.size) (hc2.below hW hb2') hg1 (by omega) (by omega) (hT.belowAll hW)
    rw [vc_yes hvs, hle] at h
    exact h
  have X0 := Lib.hid (heap_old_at (heap_old_at (heap_new_at w (.cells #[.int .i64 zs.length, .slice (some ⟨b0, o0, none⟩) zs.length c0] 28) w.heap.size rfl) (.cells #[.int .i64 hs.length, .slice (some ⟨b1, o1, none⟩) hs.length c1] 28)) (.cells #[.slice (some ⟨b2, o2, none⟩) zs.length c2] 22))
  have X1 := Lib.hid (heap_old_at (heap_new_at (w.alloc (.cells #[.int .i64 zs.length, .slice (some ⟨b0, o0, none⟩) zs.length c0] 28)) (.cells #[.int .i64 hs.length, .slice (some ⟨b1, o1, none⟩) hs.length c1] 28) (w.heap.size + 1) (by simp)) (.cells #[.slice (some ⟨b2, o2, none⟩) zs.length c2] 22))
  have X2 := Lib.hid (heap_new_at ((w.alloc (.cells #[.int .i64 zs.length, .slice (some ⟨b0, o0, none⟩) zs.length c0] 28)).alloc (.cells #[.int .i64 hs.length, .slice (some ⟨b1, o1, none⟩) hs.length c1] 28)) (.cells #[.slice (some ⟨b2, o2, none⟩) zs.length c2] 22) (w.heap.size + 1 + 1) (by simp))
  have HG0 := Lib.hid hg0; have HG1 := Lib.hid hg1
  have HC0 := Lib.hid hc0; have HC1 := Lib.hid hc1; have HC2 := Lib.hid hc2
  have HLE := Lib.hid hle; have HV := Lib.hid hvs; have HT := Lib.hid hT
  have hT0 := hT.lt
  have hnn : ((zs.length : Int) != (zs.length : Int)) = false := by simp
  have HXX : Hid (∀ W, Below (((w.alloc (.cells #[.int .i64 zs.length, .slice (some ⟨b0, o0, none⟩) zs.length c0] 28)).alloc (.cells #[.int .i64 hs.length, .slice (some ⟨b1, o1, none⟩) hs.length c1] 28)).alloc (.cells #[.slice (some ⟨b2, o2, none⟩) zs.length c2] 22)).heap.size (((w.alloc (.cells #[.int .i64 zs.length, .slice (some ⟨b0, o0, none⟩) zs.length c0] 28)).alloc (.cells #[.int .i64 hs.length, .slice (some ⟨b1, o1, none⟩) hs.length c1] 28)).alloc (.cells #[.slice (some ⟨b2, o2, none⟩) zs.length c2] 22)) W → (W.cell? ⟨w.heap.size, 0, none⟩ = some (.int .i64 zs.length) ∧ W.cell? ⟨w.heap.size, 1, none⟩ = some (.slice (some ⟨b0, o0, none⟩) zs.length c0)) ∧ (W.cell? ⟨w.heap.size + 1, 0, none⟩ = some (.int .i64 hs.length) ∧ W.cell? ⟨w.heap.size + 1, 1, none⟩ = some (.slice (some ⟨b1, o1, none⟩) hs.length c1)) ∧ W.cell? ⟨w.heap.size + 1 + 1, 0, none⟩ = some (.slice (some ⟨b2, o2, none⟩) zs.length c2)) := fun W hW => by
    obtain ⟨a0, a1, -, -⟩ := two_cells ((hW.block w.heap.size (by first | (simp; done) | (simp; omega))).trans X0.out)
    obtain ⟨x0, x1, -, -⟩ := two_cells ((hW.block (w.heap.size + 1) (by first | (simp; done) | (simp; omega))).trans X1.out)
    refine ⟨⟨a0, a1⟩, ⟨x0, x1⟩, ?_⟩
    have h := (hW.block (w.heap.size + 1 + 1) (by first | (simp; done) | (simp; omega))).trans X2.out
    rw [cell_of_row W _ 0 _ _ _ h]; rfl
  clear hg0 hg1 hc0 hc1 hc2 p0 p1 hle hvs hT X0 X1 X2
  refine callsIn_of_wp_marks Tryd.func21 rfl trivial ?_ rfl
  simp only [Tryd.ntmps21, List.size_toArray, List.length_cons, List.length_nil, Nat.reduceAdd, Nat.reduceSub, Array.replicate_succ, Array.replicate_zero, List.push_toArray, List.append_toArray, List.nil_append, List.cons_append]
  gi_wp2_with (first | (gi_at_call 41; with_reducible refine (callsIn_wide.2 his).mono ?_; rintro e w1 ⟨rfl, hb1⟩; have D1 := D0.trans (hb1.mono D0.size); obtain ⟨⟨a0, a1⟩, ⟨x0, x1⟩, y0⟩ := HXX.out w1 hb1; have hca := HCK.out w1 D1) | (gi_at_call 36; with_reducible refine (callsIn_wide.2 hca).mono ?_; rintro e w2 ⟨rfl, hb2⟩; have D2 := D1.trans (hb2.mono D1.size); have E2 := hb1.trans (hb2.mono hb1.size); obtain ⟨⟨a0, a1⟩, ⟨x0, x1⟩, y0⟩ := HXX.out w2 E2))
  have hs2 : w.heap.size + 3 ≤ w2.heap.size := by have := E2.size; simpa using this
  have E2' : Below (w.heap.size + 3) (((w.alloc (.cells #[.int .i64 zs.length, .slice (some ⟨b0, o0, none⟩) zs.length c0] 28)).alloc (.cells #[.int .i64 hs.length, .slice (some ⟨b1, o1, none⟩) hs.length c1] 28)).alloc (.cells #[.slice (some ⟨b2, o2, none⟩) zs.length c2] 22)) w2 := E2.mono (by first | (simp; done) | (simp; omega))
  have HT2 := Lib.hid (HT.out.belowAll D2)
  clear a0 a1 x0 x1 y0 hca his hb1 hb2 E2 D1
  refine wpIn_loop (fun a W => ∃ (k : Nat) (Ds : List Nat) (u9 u10 u11 u12 u31 u32 u33 u34 u35 u36 u37 u38 u39 u40 u41 u42 u43 u44 u45 u46 u47 u48 u49 u50 u51 u52 u53 u54 u55 u56 u57 u58 u59 u60 u61 u62 : Value), a = { tmps := #[.agg #[.int .i64 zs.length, .slice (some ⟨b0, o0, none⟩) zs.length c0], .agg #[.int .i64 hs.length, .slice (some ⟨b1, o1, none⟩) hs.length c1], .slice (some ⟨b2, o2, none⟩) zs.length c2, .pointer (some ⟨w.heap.size, 0, none⟩), .pointer (some ⟨w.heap.size + 1, 0, none⟩), .pointer (some ⟨w.heap.size + 1 + 1, 0, none⟩), .bool false, .int .i64 0, .int .i64 0, u9, u10, u11, u12, .agg #[.int .i64 zs.length, .slice (some ⟨b0, o0, none⟩) zs.length c0], .bool true, .bool false, .agg #[.int .i64 hs.length, .slice (some ⟨b1, o1, none⟩) hs.length c1], .slice (some ⟨b2, o2, none⟩) zs.length c2, .int .i64 0, .int .i64 0, .bool false, undef, .slice (some ⟨b2, o2, none⟩) zs.length c2, .int .i64 zs.length, .pointer (some ⟨w.heap.size, 0, none⟩), .int .i64 zs.length, .bool false, .pointer (some ⟨w.heap.size, 1, none⟩), .slice (some ⟨b0, o0, none⟩) zs.length c0, .int .i64 zs.length, .int .i64 k, u31, u32, u33, u34, u35, u36, u37, u38, u39, u40, u41, u42, u43, u44, u45, u46, u47, u48, u49, u50, u51, u52, u53, u54, u55, u56, u57, u58, u59, u60, u61, u62], defers := marks Ds } ∧ k ≤ zs.length ∧ allGood zs hs vs k = true ∧ Below (w.heap.size + 3) (((w.alloc (.cells #[.int .i64 zs.length, .slice (some ⟨b0, o0, none⟩) zs.length c0] 28)).alloc (.cells #[.int .i64 hs.length, .slice (some ⟨b1, o1, none⟩) hs.length c1] 28)).alloc (.cells #[.slice (some ⟨b2, o2, none⟩) zs.length c2] 22)) W ∧ DsOk w2.heap.size W Ds ∧ w2.heap.size ≤ W.heap.size) (fun a _ => zs.length - (intOf (a.tmps.getD 30 undef)).toNat) ?h0 ?round
  case h0 =>
    exact ⟨0, [], _, _, _, _, _, _, _, _, _, _, _, _, _, _, _, _, _, _, _, _, _, _, _, _, _, _, _, _, _, _, _, _, _, _, _, _, rfl, Nat.zero_le _, rfl, E2', ⟨List.nodup_nil, by simp⟩, Nat.le_refl _⟩
  case round =>
    rintro a W ⟨k, Ds, u9, u10, u11, u12, u31, u32, u33, u34, u35, u36, u37, u38, u39, u40, u41, u42, u43, u44, u45, u46, u47, u48, u49, u50, u51, u52, u53, u54, u55, u56, u57, u58, u59, u60, u61, u62, rfl, hk, hA, hB, hDs, hsW⟩
    have hBW : Below (((w.alloc (.cells #[.int .i64 zs.length, .slice (some ⟨b0, o0, none⟩) zs.length c0] 28)).alloc (.cells #[.int .i64 hs.length, .slice (some ⟨b1, o1, none⟩) hs.length c1] 28)).alloc (.cells #[.slice (some ⟨b2, o2, none⟩) zs.length c2] 22)).heap.size (((w.alloc (.cells #[.int .i64 zs.length, .slice (some ⟨b0, o0, none⟩) zs.length c0] 28)).alloc (.cells #[.int .i64 hs.length, .slice (some ⟨b1, o1, none⟩) hs.length c1] 28)).alloc (.cells #[.slice (some ⟨b2, o2, none⟩) zs.length c2] 22)) W := ⟨hB.os, hB.tape, hB.output, hB.size, fun i hi => hB.block i (by simpa using hi)⟩
    have DB : Below w.heap.size w W := D0.trans (hBW.mono D0.size)
    have HA := Lib.hid hA
    by_cases hlt : (k : Int) < zs.length
    · have hkl : k < zs.length := by omega
      have hk0 : (0 : Int) ≤ k := by omega
      have hz0 := isG_row_ok HG0.out k hkl
      have hzb : (el zs k).toNat < 2 ^ zs.length := by
        have p0 := isG_parts HG0.out
        have q := rowOk_le (rowsOk_at p0.2.2.2.1 hkl)
        rw [Int.toNat_natCast] at q
        have e : ((2 : Int) ^ zs.length) = ((2 ^ zs.length : Nat) : Int) := by simp
        rw [e] at q
        omega
      obtain ⟨z, hzz⟩ : ∃ z : Nat, el zs k = (z : Int) := ⟨(el zs k).toNat, by omega⟩
      have hzlt : z < 2 ^ zs.length := by rw [hzz, Int.toNat_natCast] at hzb; exact hzb
      have hp62 : 2 ^ zs.length ≤ 2 ^ 62 := Nat.pow_le_pow_right (by decide) q0
      have cz : W.cell? ⟨b0, o0 + k, none⟩ = some (.int .i64 (z : Int)) := by rw [← hzz]; exact (HC0.out.below DB hb0) k hkl
      have HNB : Hid (nbN zs k = mem z) := by
        show _ = _
        rw [mem_to z zs.length hzlt (by omega)]
        unfold nbN bt
        rw [hzz, Int.toNat_natCast]
      have HZZ := Lib.hid hzz
      clear hzb hzz hA hz0
      gi_wp2_with (gi_at_call 42; refine (callsIn_wide.2 (membersOf_any _ _)).mono ?_; rintro e w' ⟨rfl, rfl⟩)
      obtain ⟨W4, hW4⟩ : ∃ W4, W4 = (W.alloc (.cells #[.int .i64 0] 2)).alloc (.cells #[.int .i64 z] 2) := ⟨_, rfl⟩
      refine at_world (w' := W4) ?_ hW4.symm
      have hs4 : W4.heap.size = W.heap.size + 2 := by rw [hW4]; simp
      have hb4 : Boxed W4 W.heap.size 2 (.int .i64 (orL ([].map fun j => (el vs j).toNat) : Nat)) := by rw [hW4]; exact (Boxed.new W 2 _).alloc _
      have hc4 : W4.cell? ⟨W.heap.size + 1, 0, none⟩ = some (.int .i64 z) := by rw [hW4]; have := World.cell?_alloc_new (w := W.alloc (.cells #[.int .i64 0] 2)) #[.int .i64 z] 2 0; rw [World.size_alloc] at this; rw [this]; rfl
      have hB34 : Below W.heap.size W W4 := by rw [hW4]; exact ((Below.refl _ _).alloc (Nat.le_refl _) _).alloc (by simp) _
      have hB4 : Below (w.heap.size + 3) (((w.alloc (.cells #[.int .i64 zs.length, .slice (some ⟨b0, o0, none⟩) zs.length c0] 28)).alloc (.cells #[.int .i64 hs.length, .slice (some ⟨b1, o1, none⟩) hs.length c1] 28)).alloc (.cells #[.slice (some ⟨b2, o2, none⟩) zs.length c2] 22)) W4 := hB.trans (hB34.mono (by omega))
      have hT4 : Tab W4 := HT.out.belowAll (DB.trans (hB34.mono DB.size))
      have hDs4 : DsOk w2.heap.size W4 Ds := hDs.kept fun Dd hDd => hB34.block Dd (Array.getElem?_eq_some_iff.1 (hDs.2 Dd hDd).2).1
      refine wpIn_rangeFunc_ownF rfl (by omega) (gf := 67) (lb := #[.pointer (some ⟨W.heap.size + 1, 0, none⟩)]) rfl trivial (enters_of Tryd.func67 (by kernel_rfl) rfl)
        (members_stops 4 (by omega) (W.heap.size + 1) w.heap.size z (by omega) W4 (by omega) hc4 hT4 hT0) belowK_t (belowK_b (by omega)) (Below.refl _ _) (fun _ => rfl)
        (fun pre W' => Boxed W' W.heap.size 2 (.int .i64 (orL (pre.unattach.map fun j => (el vs j).toNat) : Nat)) ∧ (∀ Dd, Dd ∈ Ds → W'.heap[Dd]? = some (.deferred (some []))) ∧ Below (w.heap.size + 3) (((w.alloc (.cells #[.int .i64 zs.length, .slice (some ⟨b0, o0, none⟩) zs.length c0] 28)).alloc (.cells #[.int .i64 hs.length, .slice (some ⟨b1, o1, none⟩) hs.length c1] 28)).alloc (.cells #[.slice (some ⟨b2, o2, none⟩) zs.length c2] 22)) W' ∧ W4.heap.size ≤ W'.heap.size)
        (fun _ _ _ => False)
        ?hI (fun _ _ _ _ _ hs _ _ => hs) ?h0c (fun y => { tmps := #[.agg #[.int .i64 zs.length, .slice (some ⟨b0, o0, none⟩) zs.length c0], .agg #[.int .i64 hs.length, .slice (some ⟨b1, o1, none⟩) hs.length c1], .slice (some ⟨b2, o2, none⟩) zs.length c2, .pointer (some ⟨w.heap.size, 0, none⟩), .pointer (some ⟨w.heap.size + 1, 0, none⟩), .pointer (some ⟨w.heap.size + 1 + 1, 0, none⟩), .bool false, .int .i64 0, .int .i64 0, .int .i64 k, .int .i64 z, .pointer (some ⟨W.heap.size, 0, none⟩), .int .i64 y.1, .agg #[.int .i64 zs.length, .slice (some ⟨b0, o0, none⟩) zs.length c0], .bool true, .bool false, .agg #[.int .i64 hs.length, .slice (some ⟨b1, o1, none⟩) hs.length c1], .slice (some ⟨b2, o2, none⟩) zs.length c2, .int .i64 0, .int .i64 0, .bool false, undef, .slice (some ⟨b2, o2, none⟩) zs.length c2, .int .i64 zs.length, .pointer (some ⟨w.heap.size, 0, none⟩), .int .i64 zs.length, .bool false, .pointer (some ⟨w.heap.size, 1, none⟩), .slice (some ⟨b0, o0, none⟩) zs.length c0, .int .i64 zs.length, .int .i64 k, .bool true, .int .i64 k, .pointer (some ⟨b0, o0 + k, none⟩), .int .i64 z, .int .i64 z, .func (.func 67) #[] #[.pointer (some ⟨W.heap.size + 1, 0, none⟩)], .int .i64 y.1, u38, u39, u40, u41, u42, u43, u44, u45, u46, u47, u48, u49, u50, u51, u52, u53, u54, u55, u56, u57, u58, u59, u60, u61, u62], defers := [] }) ?assign ?body ?done ?stop
      case hI =>
        rintro pre A B row ⟨h2, h5, h6, h7⟩ hg hr
        refine ⟨kept_block hg hr (by omega) h2, fun Dd hDd => kept_block hg hr ?_ (h5 Dd hDd), ?_, ?_⟩
        · exact (Array.getElem?_eq_some_iff.1 (hDs4.2 Dd hDd).2).1
        · exact h6.grown hg (by have := h6.size; simpa using this) (fun k e => by have := (hr k e).1; omega)
        · exact Nat.le_trans h7 hg.size
      case h0c =>
        exact ⟨hb4, fun Dd hDd => (hDs4.2 Dd hDd).2, hB4, Nat.le_refl _⟩
      case assign =>
        intro l y W K hK
        gi_wp2
        exact hK
      case body =>
        rintro l pre y W5 ⟨hv5, hDs5, hB5, hsz5⟩ _
        have hyb := (mem_iff.1 y.2).2
        have hyn : y.1 < zs.length := bit_lt hzlt hyb
        have hB5' : Below (((w.alloc (.cells #[.int .i64 zs.length, .slice (some ⟨b0, o0, none⟩) zs.length c0] 28)).alloc (.cells #[.int .i64 hs.length, .slice (some ⟨b1, o1, none⟩) hs.length c1] 28)).alloc (.cells #[.slice (some ⟨b2, o2, none⟩) zs.length c2] 22)).heap.size (((w.alloc (.cells #[.int .i64 zs.length, .slice (some ⟨b0, o0, none⟩) zs.length c0] 28)).alloc (.cells #[.int .i64 hs.length, .slice (some ⟨b1, o1, none⟩) hs.length c1] 28)).alloc (.cells #[.slice (some ⟨b2, o2, none⟩) zs.length c2] 22)) W5 := ⟨hB5.os, hB5.tape, hB5.output, hB5.size, fun i hi => hB5.block i (by simpa using hi)⟩
        obtain ⟨-, -, y0⟩ := HXX.out W5 hB5'
        have cv5 := hv5.cell
        have cf5 := hv5.frozen
        obtain ⟨p, hp⟩ : ∃ p, p = (el vs y.1).toNat := ⟨_, rfl⟩
        have hpe : el vs y.1 = (p : Int) ∧ p < hs.length := by
          have hv2 := HV.out
          unfold vsOk at hv2
          rw [List.all_eq_true] at hv2
          have := hv2 y.1 (List.mem_range.2 (by rw [HLE.out]; exact hyn))
          simp at this
          omega
        obtain ⟨hpe, hpl⟩ := hpe
        have cl5 : W5.cell? ⟨b2, o2 + y.1, none⟩ = some (.int .i64 p) := by rw [← hpe]; exact (HC2.out.below (D0.trans (hB5'.mono D0.size)) hb2') y.1 (by rw [HLE.out]; exact hyn)
        have hpre : orL (pre.unattach.map fun j => (el vs j).toNat) < 2 ^ 62 := by
          refine orL_lt fun q hq => ?_
          obtain ⟨j, hj, rfl⟩ := List.mem_map.1 hq
          have hv2 := HV.out
          unfold vsOk at hv2
          rw [List.all_eq_true] at hv2
          obtain ⟨jj, hjj, rfl⟩ : ∃ jj : Mem z, jj ∈ pre ∧ jj.1 = j := by
            unfold List.unattach at hj
            obtain ⟨jj, h1, h2⟩ := List.mem_map.1 hj
            exact ⟨jj, h1, h2⟩
          have := hv2 jj.1 (List.mem_range.2 (by rw [HLE.out]; exact bit_lt hzlt (mem_iff.1 jj.2).2))
          simp at this
          omega
        have hp62b : p < 62 := by omega
        have HOR := Lib.hid (or_pow (orL (pre.unattach.map fun j => (el vs j).toNat)) p (by omega) hp62b)
        have HSN : Hid (orL ((pre ++ [y]).unattach.map fun j => (el vs j).toNat) = orL (pre.unattach.map fun j => (el vs j).toNat) ||| 2 ^ p) := by
          show _ = _
          rw [List.unattach_append, show List.unattach [y] = [y.1] from rfl, List.map_append, List.map_cons, List.map_nil, orL_snoc, ← hp]
        have hy0 : (0 : Int) ≤ y.1 := by omega
        have hy1 : (y.1 : Int) < zs.length := by omega
        have hp0 : (0 : Int) ≤ p := by omega
        have hp61 : (p : Int) ≤ 61 := by omega
        have hm : Tryd.prog.follows Departure.mixedOrders = true := mixed
        clear hpe hpl hp hpre
        gi_wp2
        gi_region_with_o (fail)
        all_goals
          refine ⟨(KeepsOthers.setCell _ _ _).trans (KeepsOthers.drew _), ?_, ?_, ?_, ?_, ?_⟩
          · exact ((Below.refl _ _).setCell (p := ⟨W.heap.size, 0, none⟩) (by simp; omega) _).drew
          · rw [HOR.out, HSN.out]
            exact hv5.set _
          · exact fun Dd hDd => (Below.heap_setCell _ _ _ _ (by have := (Array.getElem?_eq_some_iff.1 (hDs.2 Dd hDd).2).1; simp; omega)).trans (hDs5 Dd hDd)
          · exact (hB5.setCell (p := ⟨W.heap.size, 0, none⟩) (by simp; omega) _).drew
          · simpa using hsz5
      case done =>
        rintro Dm ys W6 hDD rfl ⟨hv6, hDs6, hB6, hsz6⟩ hK
        have hB6' : Below (((w.alloc (.cells #[.int .i64 zs.length, .slice (some ⟨b0, o0, none⟩) zs.length c0] 28)).alloc (.cells #[.int .i64 hs.length, .slice (some ⟨b1, o1, none⟩) hs.length c1] 28)).alloc (.cells #[.slice (some ⟨b2, o2, none⟩) zs.length c2] 22)).heap.size (((w.alloc (.cells #[.int .i64 zs.length, .slice (some ⟨b0, o0, none⟩) zs.length c0] 28)).alloc (.cells #[.int .i64 hs.length, .slice (some ⟨b1, o1, none⟩) hs.length c1] 28)).alloc (.cells #[.slice (some ⟨b2, o2, none⟩) zs.length c2] 22)) W6 := ⟨hB6.os, hB6.tape, hB6.output, hB6.size, fun i hi => hB6.block i (by simpa using hi)⟩
        have DB6 := D0.trans (hB6'.mono D0.size)
        obtain ⟨-, ⟨x0, x1⟩, y0⟩ := HXX.out W6 hB6'
        obtain ⟨M, hM⟩ : ∃ M, M = orL (imgL zs vs k) := ⟨_, rfl⟩
        have hv7 : Boxed W6 W.heap.size 2 (.int .i64 (M : Nat)) := by
          rw [hM]; unfold imgL; rw [HNB.out, ← memL_val z]; exact hv6
        have cv6 := hv7.cell
        have hM62 : M < 2 ^ 62 := by rw [hM]; exact orL_lt (imgL_lt HLE.out HV.out (by omega))
        obtain ⟨pv, hpv⟩ : ∃ pv, pv = (el vs k).toNat := ⟨_, rfl⟩
        have hpve : el vs k = (pv : Int) ∧ pv < hs.length := by
          have hv2 := HV.out
          unfold vsOk at hv2
          rw [List.all_eq_true] at hv2
          have := hv2 k (List.mem_range.2 (by rw [HLE.out]; exact hkl))
          simp at this
          omega
        obtain ⟨hpve, hpvl⟩ := hpve
        obtain ⟨r, hr⟩ : ∃ r, r = el hs pv := ⟨_, rfl⟩
        have hcv : W6.cell? ⟨b2, o2 + k, none⟩ = some (.int .i64 pv) := by rw [← hpve]; exact (HC2.out.below DB6 hb2') k (by rw [HLE.out]; exact hkl)
        have hch : W6.cell? ⟨b1, o1 + pv, none⟩ = some (.int .i64 r) := by rw [hr]; exact (HC1.out.below DB6 hb1') pv hpvl
        have hpv0 : (0 : Int) ≤ pv := by omega
        have hpvi : (pv : Int) < hs.length := by omega
        have hkz : (k : Int) < zs.length := hlt
        have HGV : Hid (goodB zs hs vs k = (decide ((M : Int) = r) && decide (pc M = pc z))) := by
          show _ = _
          unfold goodB dg
          rw [← hpv, ← hr, ← hM, HZZ.out, Int.toNat_natCast]
        have hDs7 : DsOk w2.heap.size W6 (Dm :: Ds) := by
          refine ⟨List.nodup_cons.2 ⟨fun hDD' => ?_, hDs4.1⟩, fun E hE => ?_⟩
          · have := (Array.getElem?_eq_some_iff.1 (hDs4.2 Dm hDD').2).1; omega
          · rcases List.mem_cons.1 hE with rfl | hE
            · exact ⟨by omega, hK⟩
            · exact ⟨(hDs4.2 E hE).1, hDs6 E hE⟩
        have hcM := fun W => countOf_any (M : Int) W (by omega) (by omega)
        have hcz := fun W => countOf_any (z : Int) W (by omega) (by omega)
        simp only [Int.toNat_natCast] at hcM hcz
        have HcM := Lib.hid hcM; have Hcz := Lib.hid hcz
        clear hM hv6 hv7 hpv hpve hr hcM hcz
        by_cases he : (M : Int) = r
        · have t1 : ((M : Int) != r) = false := by simpa using he
          by_cases hpp : pc M = pc z
          · have t2 : (((pc M : Nat) : Int) != ((pc z : Nat) : Int)) = false := by rw [hpp]; simp
            have HA2 : Hid (allGood zs hs vs (k + 1) = true) := by show _ = _; rw [allGood_succ, HA.out, HGV.out, decide_eq_true he, decide_eq_true hpp]; rfl
            clear he hpp
            gi_wp2
            gi_quiet ((gi_at_call 43; first | (with_reducible refine CallsIn.quiet_of_same ((callsIn_wide.2 (HcM.out _)).mono fun _ _ ⟨a, b⟩ => ⟨a, b.symm⟩)) | (with_reducible refine CallsIn.quiet_of_same ((callsIn_wide.2 (Hcz.out _)).mono fun _ _ ⟨a, b⟩ => ⟨a, b.symm⟩))))
            gi_wp2
            refine ⟨⟨k + 1, Dm :: Ds, _, _, _, _, _, _, _, _, _, _, _, _, _, _, _, _, _, _, _, _, _, _, _, _, _, _, _, _, _, _, _, _, _, _, _, _, rfl, by omega, HA2.out, drewN_below hB6 _, ⟨hDs7.1, hDs7.2⟩, Nat.le_trans (by omega) hsz6⟩, ?_⟩
            simp [intOf]; omega
          · have t2 : (((pc M : Nat) : Int) != ((pc z : Nat) : Int)) = true := by rw [bne_iff_ne]; exact fun h => hpp (Int.ofNat_inj.1 h)
            have HAN := Lib.hid (allGood_no (zs := zs) (hs := hs) (vs := vs) hkl (by rw [HGV.out, decide_eq_false hpp, Bool.and_false]))
            clear he hpp
            gi_wp2
            gi_quiet ((gi_at_call 43; first | (with_reducible refine CallsIn.quiet_of_same ((callsIn_wide.2 (HcM.out _)).mono fun _ _ ⟨a, b⟩ => ⟨a, b.symm⟩)) | (with_reducible refine CallsIn.quiet_of_same ((callsIn_wide.2 (Hcz.out _)).mono fun _ _ ⟨a, b⟩ => ⟨a, b.symm⟩))))
            gi_wp2
            refine leaves_marks (H := w2.heap.size) (Dm :: Ds) _ ⟨hDs7.1, hDs7.2⟩ fun W' hss hb' => ?_
            refine ⟨_, results_tmp2 rfl _ _ _, by rw [ivB_bad HAN.out]; rfl, D0.trans (((drewN_below hB6' _).trans (hb'.mono (by simp; omega))).mono D0.size)⟩
        · have t1 : ((M : Int) != r) = true := by rw [bne_iff_ne]; exact he
          have HAN := Lib.hid (allGood_no (zs := zs) (hs := hs) (vs := vs) hkl (by rw [HGV.out, decide_eq_false he, Bool.false_and]))
          clear he
          gi_wp2
          gi_quiet ((gi_at_call 43; first | (with_reducible refine CallsIn.quiet_of_same ((callsIn_wide.2 (HcM.out _)).mono fun _ _ ⟨a, b⟩ => ⟨a, b.symm⟩)) | (with_reducible refine CallsIn.quiet_of_same ((callsIn_wide.2 (Hcz.out _)).mono fun _ _ ⟨a, b⟩ => ⟨a, b.symm⟩))))
          gi_wp2
          refine leaves_marks (H := w2.heap.size) (Dm :: Ds) _ ⟨hDs7.1, hDs7.2⟩ fun W' hss hb' => ?_
          refine ⟨_, results_tmp2 rfl _ _ _, by rw [ivB_bad HAN.out]; rfl, D0.trans (((drewN_below hB6' _).trans (hb'.mono (by simp; omega))).mono D0.size)⟩
      case stop =>
        rintro D c pre W _ _ h _
        exact h.elim
    · have hkl : k = zs.length := by omega
      have HF : Hid (allGood zs hs vs zs.length = true) := by show _ = _; rw [hkl] at hA; exact hA
      gi_wp2
      refine leaves_marks (H := w2.heap.size) Ds _ hDs fun W' hss hb' => ?_
      refine ⟨_, results_tmp2 rfl _ _ _, by rw [ivB_yes HV.out HF.out]; rfl, D0.trans ((hBW.trans (hb'.mono (by simp; omega))).mono D0.size)⟩
end Go.Proofs.YtlodaeoikkjbkaaDoor
