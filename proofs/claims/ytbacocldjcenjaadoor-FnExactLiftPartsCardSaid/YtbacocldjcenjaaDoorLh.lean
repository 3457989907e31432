/-
  impl.LiftOf. (A plain seat of bases and graphs of pairs.)
-/
import Derived.Test.YtbacocldjcenjaaDoorLg
import Derived.RangeFuncWrites
namespace Go.Proofs.YtbacocldjcenjaaDoor
set_option maxRecDepth 100000
open Go.RowKit Go.Shelf
theorem kept_rowL {W W' : World} {row : Option Nat} {B k : Nat} {o : Obj} (hg : W.grownBy W' row) (hr : ∀ r, row = some r → B ≤ r ∧ ∃ o : Obj, W.heap[r]? = some o ∧ o.isCells = false) (hk : k < B) (h : W.heap[k]? = some o) : W'.heap[k]? = some o :=
  (hg.block k (Array.getElem?_eq_some_iff.1 h).1 (fun e => by have := (hr k e.symm).1; omega)).trans h

attribute [local go_sem] Oper.semAt_some
attribute [local go_sem] wide_fn

theorem fin_vals (m : Nat) : (List.finRange m).map (fun x : Fin m => x.1) = List.range m := by
  apply List.ext_getElem <;> simp

set_option maxRecDepth 100000 in
set_option maxHeartbeats 12800000 in
theorem implLf_in (n m k cap : Nat) (sa : Option Addr) (fs : List Int) (w : World) (hs : Sa w (.slice sa k cap) k fs) (hg : isB n m k fs = true) (hav : AvOk n m k fs) (h1 : 1 ≤ n ∧ n ≤ 10 ∧ 1 ≤ m ∧ m ≤ 62 ∧ n * m ≤ 62 ∧ k ≤ 16) :
    CallsIn Fence.wide 5 Tryd.prog 14 #[.agg #[.int .i64 n, .int .i64 m, .slice sa k cap]] w fun e w' => GRes w.heap.size (n * m : Nat) (rowsF (n * m) (adjS (lfS m fs k))) 0 e w' ∧ Below w.heap.size w w' := by
  obtain ⟨n1, n2, m1, m2, nm, k16⟩ := h1
  have D0 : Below w.heap.size w ((w.alloc (.cells #[.int .i64 n, .int .i64 m, .slice sa k cap] 30)).alloc (.cells #[.int .i64 0, .slice none 0 0] 38)) := ((Below.refl _ _).alloc (Nat.le_refl _) _).alloc (by simp) _
  have his := implIs_any n m (.slice sa k cap) k fs ((w.alloc (.cells #[.int .i64 n, .int .i64 m, .slice sa k cap] 30)).alloc (.cells #[.int .i64 0, .slice none 0 0] 38)) (hs.below D0) (by omega)
  rw [hg] at his
  have HG0 := Lib.hid (heap_old_at (World.alloc_heap_new w (.cells #[.int .i64 n, .int .i64 m, .slice sa k cap] 30)) (.cells #[.int .i64 0, .slice none 0 0] 38))
  have HH1 := Lib.hid (heap_new_at (w.alloc (.cells #[.int .i64 n, .int .i64 m, .slice sa k cap] 30)) (.cells #[.int .i64 0, .slice none 0 0] 38) (w.heap.size + 1) (by simp))
  have HC := Lib.hid hs; have HAV := Lib.hid hav; have HK := Lib.hid hs.1
  have hmm := @run_makeMap Tryd.prog
  obtain ⟨W0, hW0⟩ : ∃ W0, W0 = (w.alloc (.cells #[.int .i64 n, .int .i64 m, .slice sa k cap] 30)).alloc (.cells #[.int .i64 0, .slice none 0 0] 38) := ⟨_, rfl⟩
  have sz0 : w.heap.size + 2 ≤ W0.heap.size := by rw [hW0]; simp
  rw [← hW0] at his HG0 HH1 D0
  have HIS := Lib.hid his
  obtain ⟨NM, hNM⟩ : ∃ NM, NM = n * m := ⟨_, rfl⟩
  have eNM : (n : Int) * (m : Int) = (NM : Int) := by rw [hNM]; push_cast; rfl
  rw [← hNM] at nm ⊢
  have HNM := Lib.hid hNM
  clear his hs hg hav hNM
  refine callsIn_of_wp_marks Tryd.func14 rfl trivial ?_ rfl
  simp only [Tryd.ntmps14, List.size_toArray, List.length_cons, List.length_nil, Nat.reduceAdd, Nat.reduceSub, Array.replicate_succ, Array.replicate_zero, List.push_toArray, List.append_toArray, List.nil_append, List.cons_append]
  gi_wp2_with (gi_at_call 23; rw [← hW0]; refine (callsIn_wide.2 HIS.out).mono ?_; rintro e w1 ⟨rfl, hb1⟩; have s1 := hb1.size; have GB1 := Lib.hid ((hb1.block w.heap.size (by omega)).trans HG0.out); obtain ⟨⟨b0, b1, b2⟩, -⟩ := three_cells GB1.out; have hq1 : w.heap.size < w1.heap.size := (by omega); have hq2 : ¬ w.heap.size = w1.heap.size := (by omega); have hq3 : ¬ w.heap.size = w1.heap.size + 1 := (by omega))
  obtain ⟨W2, hW2⟩ : ∃ W2, W2 = (w1.alloc (.map #[] 0)).alloc (.cells #[.map (some w1.heap.size)] 59) := ⟨_, rfl⟩
  refine at_world (w' := W2) ?_ hW2.symm
  have HP2 : Hid (PS W2 w1.heap.size (lfS m fs 0)) := by show PS _ _ _; rw [hW2]; exact (PS.made w1).below ((Below.refl _ _).alloc (Nat.le_refl _) _)
  have HX2 : Hid (Boxed W2 (w1.heap.size + 1) 59 (.map (some w1.heap.size))) := by show Boxed _ _ _ _; rw [hW2]; exact heap_new_at (w1.alloc (.map #[] 0)) (.cells #[.map (some w1.heap.size)] 59) (w1.heap.size + 1) (by simp)
  have hE2 : Below w1.heap.size w1 W2 := by rw [hW2]; exact ((Below.refl _ _).alloc (Nat.le_refl _) _).alloc (by simp) _
  have s2 : w1.heap.size + 2 ≤ W2.heap.size := by rw [hW2]; simp
  have E1 : Below w.heap.size w w1 := D0.trans (hb1.mono (by omega))
  clear hW2 hmm b0 b1 b2 HIS HG0
  refine wpIn_loop (fun a W => ∃ (j : Nat) (Ds : List Nat) (u6 u7 u8 u18 u19 u20 u21 u22 u23 u24 u25 u26 u27 u28 u29 u30 u31 u32 u33 u34 u35 u36 u37 u38 u39 u40 u41 : Value), a = { tmps := #[.agg #[.int .i64 n, .int .i64 m, .slice sa k cap], .pointer (some ⟨w.heap.size, 0, none⟩), .pointer (some ⟨w.heap.size + 1, 0, none⟩), .int .i64 0, .pointer (some ⟨w1.heap.size + 1, 0, none⟩), undef, u6, u7, u8, .agg #[.int .i64 n, .int .i64 m, .slice sa k cap], .bool true, .bool false, undef, .map (some w1.heap.size), .pointer (some ⟨w.heap.size, 2, none⟩), .slice sa k cap, .int .i64 k, .int .i64 j, u18, u19, u20, u21, u22, u23, u24, u25, u26, u27, u28, u29, u30, u31, u32, u33, u34, u35, u36, u37, u38, u39, u40, u41], defers := marks Ds } ∧ j ≤ k ∧ Hid (PS W w1.heap.size (lfS m fs j)) ∧ Hid (Boxed W (w1.heap.size + 1) 59 (.map (some w1.heap.size))) ∧ Below w1.heap.size w1 W ∧ DsOk (w1.heap.size + 2) W Ds ∧ w1.heap.size + 2 ≤ W.heap.size) (fun a _ => k - (intOf (a.tmps.getD 17 undef)).toNat) ?h0 ?round
  case h0 =>
    exact ⟨0, [], _, _, _, _, _, _, _, _, _, _, _, _, _, _, _, _, _, _, _, _, _, _, _, _, _, _, _, rfl, Nat.zero_le _, HP2, HX2, hE2, ⟨List.nodup_nil, by simp⟩, s2⟩
  case round =>
    clear HP2 HX2 hE2 s2
    rintro a W ⟨j, Ds, u6, u7, u8, u18, u19, u20, u21, u22, u23, u24, u25, u26, u27, u28, u29, u30, u31, u32, u33, u34, u35, u36, u37, u38, u39, u40, u41, rfl, hjk, HP, HX, hE, hDs, hsz⟩
    have DW : Below w.heap.size w W := E1.trans (hE.mono (by omega))
    obtain ⟨⟨b0, b1, b2⟩, -⟩ := three_cells ((hE.block w.heap.size (by omega)).trans GB1.out)
    have hwW : ¬ w.heap.size = W.heap.size := by omega
    have hwW2 : w.heap.size < W.heap.size := by omega
    by_cases hlt : (j : Int) < k
    · have hjl : j < k := by omega
      have hj0 : (0 : Int) ≤ j := by omega
      obtain ⟨e0, f0⟩ := HAV.out.zero hjl
      obtain ⟨e1, t0⟩ := HAV.out.one hjl
      obtain ⟨e2, c0⟩ := HAV.out.two hjl
      obtain ⟨b, off, rfl, hb, hcc⟩ : ∃ b off, sa = some ⟨b, off, none⟩ ∧ b < w.heap.size ∧ Cells w b off fs := by
        rcases HC.out.2 with ⟨_, _, _, e⟩ | ⟨b, off, _, e, h1, h2⟩
        · omega
        · injection e with e1 _ _
          exact ⟨b, off, e1, h1, h2⟩
      have HCW := hcc.below DW hb
      have z0 := HCW (j * 3) (by rw [HK.out]; omega)
      have z1 := HCW (j * 3 + 1) (by rw [HK.out]; omega)
      have z2 := HCW (j * 3 + 2) (by rw [HK.out]; omega)
      rw [e0] at z0
      rw [e1] at z1
      rw [e2] at z2
      rw [← Nat.add_assoc] at z1 z2
      obtain ⟨f, hf⟩ : ∃ f, f = av fs j 0 := ⟨_, rfl⟩
      obtain ⟨t, ht⟩ : ∃ t, t = av fs j 1 := ⟨_, rfl⟩
      obtain ⟨c, hc⟩ : ∃ c, c = av fs j 2 := ⟨_, rfl⟩
      rw [← hf] at z0 f0
      rw [← ht] at z1 t0
      rw [← hc] at z2 c0
      have HF := Lib.hid hf; have HTT := Lib.hid ht; have HCC := Lib.hid hc
      have HDS := Lib.hid hDs
      have HDW := Lib.hid DW
      clear e0 e1 e2 hf ht hc hDs HCW DW hcc
      gi_wp2_with (gi_at_call 24; refine (callsIn_wide.2 (liftedArcs_any _ _ _ _ _)).mono ?_; rintro e w' ⟨rfl, rfl⟩)
      obtain ⟨Wm, hWm⟩ : ∃ Wm, Wm = ((W.alloc (.cells #[.int .i64 f, .int .i64 t, .int .i64 c] 51)).alloc (.cells #[.int .i64 m] 2)).alloc (.cells #[.int .i64 f, .int .i64 t, .int .i64 c] 51) := ⟨_, rfl⟩
      refine at_world (w' := Wm) ?_ hWm.symm
      have hsm : W.heap.size + 3 ≤ Wm.heap.size := by rw [hWm]; simp
      have hbm : Below W.heap.size W Wm := by rw [hWm]; exact (((Below.refl _ _).alloc (Nat.le_refl _) _).alloc (by simp) _).alloc (by simp; omega) _
      have hBa : Wm.heap[W.heap.size + 1 + 1]? = some (.cells #[.int .i64 f, .int .i64 t, .int .i64 c] 51 (0, 0)) := by rw [hWm]; exact heap_new_at ((W.alloc (.cells #[.int .i64 f, .int .i64 t, .int .i64 c] 51)).alloc (.cells #[.int .i64 m] 2)) (.cells #[.int .i64 f, .int .i64 t, .int .i64 c] 51) (W.heap.size + 1 + 1) (by simp)
      have hBb : Wm.heap[W.heap.size + 1]? = some (.cells #[.int .i64 m] 2 (0, 0)) := by rw [hWm]; exact heap_old_at (heap_new_at (W.alloc (.cells #[.int .i64 f, .int .i64 t, .int .i64 c] 51)) (.cells #[.int .i64 m] 2) (W.heap.size + 1) (by simp)) _
      have hEm := hE.trans (hbm.mono (by omega))
      have hDsm : DsOk (w1.heap.size + 2) Wm Ds := HDS.out.kept fun Dd hDd => hbm.block Dd (Array.getElem?_eq_some_iff.1 (HDS.out.2 Dd hDd).2).1
      have HPm : Hid (PS Wm w1.heap.size (lfS m fs j ++ arcN m fs j [])) := by show PS _ _ _; rw [arcN_nil, List.append_nil]; exact HP.out.below hbm
      have HXm : Hid (Boxed Wm (w1.heap.size + 1) 59 (.map (some w1.heap.size))) := (hbm.block _ HX.out.lt).trans HX.out
      have hl1 := lfS_length m fs j
      have hl2 : j * m ≤ 16 * 62 := Nat.mul_le_mul (by omega) m2
      obtain ⟨q, hq⟩ : ∃ q, q = f * m := ⟨_, rfl⟩
      have hst := lifted_stops 4 (by omega) (W.heap.size + 1 + 1) (W.heap.size + 1) m f t c q hq m1 m2 (by omega) (by omega) c0 Wm hBa hBb
      obtain ⟨vf, hvf⟩ : ∃ vf : Fin m → Nat, vf = fun x => q + x.1 := ⟨_, rfl⟩
      obtain ⟨rf, hrf⟩ : ∃ rf : Fin m → Nat, rf = fun x => t * m + (x.1 + c) % m := ⟨_, rfl⟩
      rw [show (fun x : Fin m => (#[.int .i64 ((q + x.1 : Nat) : Int), .int .i64 ((t * m + (x.1 + c) % m : Nat) : Int)] : Array Value)) = fun x => #[.int .i64 (vf x), .int .i64 (rf x)] by rw [hvf, hrf]] at hst
      have HVF : Hid (∀ x, vf x = q + x.1) := fun x => by rw [hvf]
      have HRF : Hid (∀ x, rf x = t * m + (x.1 + c) % m) := fun x => by rw [hrf]
      clear hWm hbm HP HX b0 b1 b2 z0 z1 z2 hE hwW hwW2 hvf hrf
      refine wpIn_rangeFunc_ownG (α := Fin m) rfl (by omega) (gf := 35) (lb := #[.pointer (some ⟨W.heap.size + 1 + 1, 0, none⟩), .pointer (some ⟨W.heap.size + 1, 0, none⟩)]) rfl trivial (enters_of Tryd.func35 (by kernel_rfl) rfl)
        hst KpB.tr (KpB.put (by omega) (by omega)) (Below.refl _ _) (fun _ => rfl)
        (fun pre W' => Hid (PS W' w1.heap.size (lfS m fs j ++ arcN m fs j (pre.map fun x => x.1))) ∧ Hid (Boxed W' (w1.heap.size + 1) 59 (.map (some w1.heap.size))) ∧ Hid (∀ Dd, Dd ∈ Ds → W'.heap[Dd]? = some (.deferred (some []))) ∧ Below w1.heap.size w1 W' ∧ Wm.heap.size ≤ W'.heap.size)
        (fun _ _ _ => False)
        ?hI (fun _ _ _ _ _ hs _ _ => hs) ?h0c (fun x => { tmps := #[.agg #[.int .i64 n, .int .i64 m, .slice (some ⟨b, off, none⟩) k cap], .pointer (some ⟨w.heap.size, 0, none⟩), .pointer (some ⟨w.heap.size + 1, 0, none⟩), .int .i64 0, .pointer (some ⟨w1.heap.size + 1, 0, none⟩), undef, .pointer (some ⟨W.heap.size, 0, none⟩), .int .i64 (vf x), .int .i64 (rf x), .agg #[.int .i64 n, .int .i64 m, .slice (some ⟨b, off, none⟩) k cap], .bool true, .bool false, undef, .map (some w1.heap.size), .pointer (some ⟨w.heap.size, 2, none⟩), .slice (some ⟨b, off, none⟩) k cap, .int .i64 k, .int .i64 j, .bool true, .pointer (some ⟨b, off + j * 3, none⟩), .agg #[.int .i64 f, .int .i64 t, .int .i64 c], .pointer (some ⟨w.heap.size, 1, none⟩), .int .i64 m, .agg #[.int .i64 f, .int .i64 t, .int .i64 c], .func (.func 35) #[] #[.pointer (some ⟨W.heap.size + 1 + 1, 0, none⟩), .pointer (some ⟨W.heap.size + 1, 0, none⟩)], .int .i64 (vf x), .int .i64 (rf x), u27, u28, u29, u30, u31, u32, u33, u34, u35, u36, u37, u38, u39, u40, u41], defers := [] }) ?assign ?body ?done ?stop
      case hI =>
        rintro pre A B row ⟨h1, h2, h3, h4, h5⟩ hg hr
        refine ⟨h1.out.kept hg (fun e => by have := (hr _ e.symm).1; omega), kept_rowL hg hr (by omega) h2.out, fun Dd hDd => kept_rowL hg hr ?_ (h3.out Dd hDd), ?_, Nat.le_trans h5 hg.size⟩
        · exact (Array.getElem?_eq_some_iff.1 (hDsm.2 Dd hDd).2).1
        · exact h4.grown hg h4.size (fun k e => by have := (hr k e).1; omega)
      case h0c =>
        exact ⟨HPm, HXm, fun Dd hDd => (hDsm.2 Dd hDd).2, hEm, Nat.le_refl _⟩
      case assign =>
        intro l y W K hK
        gi_wp2
        exact hK
      case body =>
        rintro l pre x W5 ⟨hp5, hx5, hd5, hB5, hs5⟩ hlen
        have cx := hx5.out.cell
        have hmap : List.map (fun x : Fin m => x.1) (pre ++ [x]) = pre.map (fun x : Fin m => x.1) ++ [x.1] := by simp
        have hxm := x.2
        have hal := arcN_length m fs j (pre.map fun x : Fin m => x.1)
        rw [List.length_map] at hal
        obtain ⟨S, hS⟩ : ∃ S, S = lfS m fs j ++ arcN m fs j (pre.map fun x : Fin m => x.1) := ⟨_, rfl⟩
        have hSl : S.length < 1048576 := by rw [hS, List.length_append]; omega
        rw [← hS] at hp5
        obtain ⟨V, hV⟩ : ∃ V, V = vf x := ⟨_, rfl⟩
        obtain ⟨R, hR⟩ : ∃ R, R = rf x := ⟨_, rfl⟩
        have hV2 := hV.trans (HVF.out x)
        have hR2 := hR.trans (HRF.out x)
        have hP1 : (arcP m fs j x.1).1 = V := by rw [hV2, hq, HF.out]; rfl
        have hP2 : (arcP m fs j x.1).2 = R := by rw [hR2, HTT.out, HCC.out]; rfl
        have hVb : V < 1048576 := by
          have : f * m ≤ 10 * 62 := Nat.mul_le_mul (by omega) m2
          omega
        have hRb : R < 1048576 := by
          have : t * m ≤ 10 * 62 := Nat.mul_le_mul (by omega) m2
          have := Nat.mod_lt (x.1 + c) (show 0 < m by omega)
          omega
        have HJO := Lib.hid (join_any w1.heap.size S V R W5 hp5.out hSl hVb hRb)
        by_cases hvr : V = R
        · have t1 : ((V : Int) != (R : Int)) = false := by simp; omega
          have HS2 : Hid (lfS m fs j ++ arcN m fs j (List.map (fun x : Fin m => x.1) (pre ++ [x])) = S) := by
            show _ = _
            rw [hmap, arcN_no (by rw [hP1, hP2]; exact hvr), hS]
          rw [← hV, ← hR]
          clear hmap hal hS hV hR hV2 hR2 hP1 hP2 hvr HJO hxm
          gi_wp2
          refine And.intro (KeepsFrom.refl _ _) (And.intro ⟨rfl, rfl⟩ ⟨?_, hx5, hd5, hB5, hs5⟩)
          show PS _ _ _
          rw [HS2.out]; exact hp5.out
        · have t1 : ((V : Int) != (R : Int)) = true := by simp; omega
          have HS2 : Hid (lfS m fs j ++ arcN m fs j (List.map (fun x : Fin m => x.1) (pre ++ [x])) = S ++ [(V, R)]) := by
            show _ = _
            rw [hmap, arcN_yes (by rw [hP1, hP2]; exact hvr), hS, hP1, hP2, List.append_assoc]
          rw [← hV, ← hR]
          clear hmap hal hS hV hR hV2 hR2 hP1 hP2 hvr hxm
          gi_wp2_with (gi_at_call 25; refine ((callsIn_wide.2 HJO.out).inRound _).mono ?_; rintro e w6 ⟨⟨v1, rfl⟩, hP6, hg6⟩)
          refine And.intro (KeepsFrom.of_grownBy hg6 (fun r e => by cases e; omega)) (And.intro (KpB.of_grown hg6 (by omega) (by omega) (by omega) (by omega)) ⟨?_, (hg6.block _ hx5.out.lt (fun e => by injection e with e; omega)).trans hx5.out, fun Dd hDd => (hg6.block Dd (Array.getElem?_eq_some_iff.1 (hd5.out Dd hDd)).1 (fun e => by have := (hDsm.2 Dd hDd).1; cases e; omega)).trans (hd5.out Dd hDd), hB5.grown hg6 hB5.size (fun r e => by cases e; omega), Nat.le_trans hs5 hg6.size⟩)
          show PS _ _ _
          rw [HS2.out]; exact hP6
      case done =>
        rintro Dm ys W6 hDD rfl ⟨hp6, hx6, hd6, hB6, hs6⟩ hK
        have HPN : Hid (PS W6 w1.heap.size (lfS m fs (j + 1))) := by
          show PS _ _ _
          have h := hp6.out
          rw [fin_vals] at h
          exact h
        have hDs7 : DsOk (w1.heap.size + 2) W6 (Dm :: Ds) := by
          refine ⟨List.nodup_cons.2 ⟨fun hDD' => ?_, hDsm.1⟩, fun E hE => ?_⟩
          · have := (Array.getElem?_eq_some_iff.1 (hDsm.2 Dm hDD').2).1; omega
          · rcases List.mem_cons.1 hE with rfl | hE
            · exact ⟨by omega, hK⟩
            · exact ⟨(hDsm.2 E hE).1, hd6.out E hE⟩
        gi_wp2
        refine ⟨⟨j + 1, Dm :: Ds, _, _, _, _, _, _, _, _, _, _, _, _, _, _, _, _, _, _, _, _, _, _, _, _, _, _, _, rfl, hjl, HPN, hx6, hB6, hDs7, by omega⟩, ?_⟩
        simp [intOf]; omega
      case stop =>
        rintro D c pre W _ _ h _
        exact h.elim
    · obtain rfl : j = k := by omega
      have cx := HX.out.cell
      have hgo := gop_any NM w1.heap.size (lfS m fs j) W HP.out nm (by rw [HNM.out]; exact lfS_mem HAV.out (by omega) j (Nat.le_refl _))
      have HGO := Lib.hid hgo
      clear hgo HP
      gi_wp2_with (gi_at_call 26; refine (callsIn_wide.2 HGO.out).mono ?_; rintro e w7 ⟨⟨g, rfl, hB7, hg7⟩, hb7⟩; have HB7 := Lib.hid hB7; have hE7 := hE.trans (hb7.mono (by omega)); have RB7 := Lib.hid ((hE7.block (w.heap.size + 1) (by omega)).trans ((hb1.block (w.heap.size + 1) (by omega)).trans HH1.out)); have hDs7 : DsOk (w1.heap.size + 2) w7 Ds := hDs.kept (fun Dd hDd => hb7.block Dd (Array.getElem?_eq_some_iff.1 (hDs.2 Dd hDd).2).1); clear hB7; obtain ⟨r0, r1, g0, g1⟩ := two_cells RB7.out)
      have hs7 := hb7.size
      have hfin := two_set (a := .int .i64 NM) (b := .slice (some ⟨g, 0, none⟩) NM NM) RB7.out
      obtain ⟨w8, hw8⟩ : ∃ w8, w8 = (w7.setCell ⟨w.heap.size + 1, 0, none⟩ (.int .i64 NM)).setCell ⟨w.heap.size + 1, 1, none⟩ (.slice (some ⟨g, 0, none⟩) NM NM) := ⟨_, rfl⟩
      rw [← hw8] at hfin
      rw [← hw8]
      have hDs8 : DsOk (w1.heap.size + 2) w8 Ds := by
        rw [hw8]
        exact hDs7.kept fun Dd hDd => by
          have := (hDs7.2 Dd hDd).1
          exact (Below.heap_setCell _ _ _ _ (by simp; omega)).trans (Below.heap_setCell _ _ _ _ (by simp; omega))
      have HB8 : Hid (Blk w8 g (rowsF NM (adjS (lfS m fs j)))) := by show Blk _ _ _; rw [hw8]; exact (HB7.out.other (by simp; omega) _).other (by simp; omega) _
      have E8 : Below w.heap.size w w8 := by rw [hw8]; exact ((E1.trans (hE7.mono (by omega))).setCell (p := ⟨w.heap.size + 1, 0, none⟩) (by simp) _).setCell (p := ⟨w.heap.size + 1, 1, none⟩) (by simp) _
      have hs8 : w1.heap.size + 2 ≤ w8.heap.size := by rw [hw8]; simp; omega
      clear hw8 r0 r1 g0 g1 RB7 HB7
      refine leaves_marks (H := w1.heap.size + 2) Ds _ hDs8 fun W' hss hb' => ?_
      have hfin2 := (hb'.block (w.heap.size + 1) (by omega)).trans hfin
      refine ⟨_, results_cell2 (p := 2) (u := 3) (ty := 38) rfl _ _ (w.heap.size + 1) 38 _ (0, 0) _ rfl hfin2 Tryd.underlying38 rfl (by exact info27), ⟨_, rfl, ?_⟩, E8.trans (hb'.mono (by omega))⟩
      have hgb : W'.heap[g]? = w8.heap[g]? := hss g (fun hm => by have := (hDs8.2 g hm).2; rw [show w8.heap[g]? = _ from HB8.out] at this; cases this)
      have h := Own.of_blk (w := W') (g := g) (B := w.heap.size) (hgb.trans HB8.out) (by omega) (by rw [rowsF_length]; unfold maxLen; omega)
      rw [rowsF_length] at h
      exact h

set_option maxHeartbeats 800000 in
theorem implLf_no (n m : Int) (v : Value) (k : Nat) (fs : List Int) (w : World) (hs : Sa w v k fs) (hl : k ≤ 9223372036854775807) (hg : isB n m k fs = false) :
    CallsIn Fence.wide 5 Tryd.prog 14 #[.agg #[.int .i64 n, .int .i64 m, v]] w fun e w' => GRes w.heap.size 0 [] 1 e w' ∧ Below w.heap.size w w' := by
  have D0 : Below w.heap.size w ((w.alloc (.cells #[.int .i64 n, .int .i64 m, v] 30)).alloc (.cells #[.int .i64 0, .slice none 0 0] 38)) := ((Below.refl _ _).alloc (Nat.le_refl _) _).alloc (by simp) _
  have his := implIs_any n m v k fs ((w.alloc (.cells #[.int .i64 n, .int .i64 m, v] 30)).alloc (.cells #[.int .i64 0, .slice none 0 0] 38)) (hs.below D0) hl
  rw [hg] at his
  simp only [World.size_alloc] at his
  have HIS := Lib.hid his
  have HH1 := Lib.hid (heap_new_at (w.alloc (.cells #[.int .i64 n, .int .i64 m, v] 30)) (.cells #[.int .i64 0, .slice none 0 0] 38) (w.heap.size + 1) (by simp))
  clear his hs hg
  refine callsIn_of_wp_marks Tryd.func14 rfl trivial ?_ rfl
  simp only [Tryd.ntmps14, List.size_toArray, List.length_cons, List.length_nil, Nat.reduceAdd, Nat.reduceSub, Array.replicate_succ, Array.replicate_zero, List.push_toArray, List.append_toArray, List.nil_append, List.cons_append]
  gi_wp2_with (gi_at_call 23; refine (callsIn_wide.2 HIS.out).mono ?_; rintro e w1 ⟨rfl, hb1⟩; have RB := Lib.hid ((hb1.block (w.heap.size + 1) (by omega)).trans HH1.out); obtain ⟨r0, r1, g0, g1⟩ := two_cells RB.out)
  have hfin := two_set (a := .int .i64 0) (b := .slice none 0 0) RB.out
  refine leaves_marks (H := w.heap.size + 2) [] _ ⟨List.nodup_nil, by simp⟩ fun W' hss hb' => ?_
  have hfin2 := (hb'.block (w.heap.size + 1) (by omega)).trans hfin
  refine ⟨_, results_cell2 (p := 2) (u := 3) (ty := 38) rfl _ _ (w.heap.size + 1) 38 _ (0, 0) _ rfl hfin2 Tryd.underlying38 rfl (by exact info27), ⟨_, rfl, Own.nil _ _⟩, ?_⟩
  exact (((D0.trans (hb1.mono (by omega))).setCell (p := ⟨w.heap.size + 1, 0, none⟩) (by simp) _).setCell (p := ⟨w.heap.size + 1, 1, none⟩) (by simp) _).trans (hb'.mono (by omega))

/-- The lift's size, rows, and the code. -/
def LfN (n m : Int) (k : Nat) (fs : List Int) : Int := if isB n m k fs then ((n.toNat * m.toNat : Nat) : Int) else 0
def LfL (n m : Int) (k : Nat) (fs : List Int) : List Int := if isB n m k fs then rowsF (n.toNat * m.toNat) (adjS (lfS m.toNat fs k)) else []
def LfC (n m : Int) (k : Nat) (fs : List Int) : Int := if isB n m k fs then 0 else 1
theorem LfL_length (n m : Int) (k : Nat) (fs : List Int) : (LfL n m k fs).length ≤ 62 := by
  unfold LfL
  cases hg : isB n m k fs
  · simp
  · obtain ⟨N, M, rfl, rfl, _, _, _, _, h5, _⟩ := isB_nats hg
    simp only [if_true, rowsF_length, Int.toNat_natCast]; exact h5
theorem implLf_any (n m : Int) (v : Value) (k : Nat) (fs : List Int) (w : World) (hs : Sa w v k fs) (hl : k ≤ 9223372036854775807) :
    Calls Tryd.prog 14 #[.agg #[.int .i64 n, .int .i64 m, v]] w fun e w' => GRes w.heap.size (LfN n m k fs) (LfL n m k fs) (LfC n m k fs) e w' ∧ Below w.heap.size w w' := by
  unfold LfN LfL LfC
  cases hg : isB n m k fs
  · exact callsIn_wide.1 (implLf_no n m v k fs w hs hl hg)
  · obtain ⟨N, M, rfl, rfl, h1, h2, h3, h4, h5, h6, hav⟩ := isB_nats hg
    simp only [if_true, Int.toNat_natCast]
    have hf := hs.form
    obtain ⟨sa, cap, rfl⟩ : ∃ sa cap, v = .slice sa k cap := ⟨_, _, hf⟩
    exact callsIn_wide.1 (implLf_in N M k cap sa fs w hs hg hav ⟨h1, h2, h3, h4, h5, h6⟩)
end Go.Proofs.YtbacocldjcenjaaDoor
