/-
  spec.l03Lift. (A plain seat of bases and graphs of pairs.)
-/
import Derived.Test.YtbacocldjcenjaaDoorLh
import Derived.Test.YtbacocldjcenjaaDoorPu
import Derived.Deep.DeepCutAuto
namespace Go.Proofs.YtbacocldjcenjaaDoor
set_option maxRecDepth 100000
open Go.RowKit

/-- Whether no two pairs of the lift's arcs so far are the same, and none is of one vertex. -/
def fthI (m : Nat) (fs : List Int) (j : Nat) : Nat → Bool
  | 0 => true
  | i + 1 => fthI m fs j i && !((arcP m fs j i).1 == (arcP m fs j i).2 || adjS (lfS m fs j ++ arcN m fs j (List.range i)) (arcP m fs j i).1 (arcP m fs j i).2)
def fthO (m : Nat) (fs : List Int) : Nat → Bool
  | 0 => true
  | j + 1 => fthO m fs j && fthI m fs j m

set_option maxRecDepth 100000 in
set_option maxHeartbeats 12800000 in
theorem l03Lift_any (n m k cap : Nat) (sa : Option Addr) (fs : List Int) (w : World) (hs : Sa w (.slice sa k cap) k fs) (hav : AvOk n m k fs) (h1 : 1 ≤ n ∧ n ≤ 10 ∧ 1 ≤ m ∧ m ≤ 62 ∧ n * m ≤ 62 ∧ k ≤ 16) :
    Calls Tryd.prog 11 #[.agg #[.int .i64 n, .int .i64 m, .slice sa k cap]] w fun e w' => (∃ g, e = .returned (.tuple #[.agg #[.int .i64 (n * m : Nat), .slice (some ⟨g, 0, none⟩) (n * m) (n * m)], .bool (fthO m fs k)]) ∧ Blk w' g (rowsF (n * m) (adjS (lfS m fs k))) ∧ w.heap.size ≤ g) ∧ Below w.heap.size w w' := by
  obtain ⟨n1, n2, m1, m2, nm, k16⟩ := h1
  have D0 : Below w.heap.size w ((w.alloc (.cells #[.int .i64 n, .int .i64 m, .slice sa k cap] 30)).alloc (.cells #[.int .i64 0, .slice none 0 0] 38)) := ((Below.refl _ _).alloc (Nat.le_refl _) _).alloc (by simp) _
  have HG0 := Lib.hid (heap_old_at (World.alloc_heap_new w (.cells #[.int .i64 n, .int .i64 m, .slice sa k cap] 30)) (.cells #[.int .i64 0, .slice none 0 0] 38))
  have HH1 := Lib.hid (heap_new_at (w.alloc (.cells #[.int .i64 n, .int .i64 m, .slice sa k cap] 30)) (.cells #[.int .i64 0, .slice none 0 0] 38) (w.heap.size + 1) (by simp))
  have HC := Lib.hid hs; have HAV := Lib.hid hav; have HK := Lib.hid hs.1
  obtain ⟨NM, hNM⟩ : ∃ NM, NM = n * m := ⟨_, rfl⟩
  have eNM : (n : Int) * (m : Int) = (NM : Int) := by rw [hNM]; push_cast; rfl
  rw [← hNM] at nm ⊢
  have HNM := Lib.hid hNM
  obtain ⟨W0, hW0⟩ : ∃ W0, W0 = (w.alloc (.cells #[.int .i64 n, .int .i64 m, .slice sa k cap] 30)).alloc (.cells #[.int .i64 0, .slice none 0 0] 38) := ⟨_, rfl⟩
  have sz0 : w.heap.size + 2 ≤ W0.heap.size := by rw [hW0]; simp
  rw [← hW0] at HG0 HH1 D0
  have hem := Lib.hid (specEmpty_any NM W0 (by omega))
  obtain ⟨⟨b0, b1, b2⟩, -⟩ := three_cells HG0.out
  clear hs hav hNM
  go_enter Tryd.func11, Tryd.ntmps11
  go_upto_region 1 with fail
  rw [← hW0]
  clear hW0
  go_wp2_with fail
  refine hem.out.mono ?_
  rintro e w2 ⟨rfl, hB2, hb2⟩
  obtain ⟨G, hG⟩ : ∃ G, G = W0.heap.size + 1 := ⟨_, rfl⟩
  have l2 := hB2.lt
  obtain ⟨w3, h3w⟩ : ∃ w3, w3 = w2.alloc (.cells #[.int .i64 NM, .slice (some ⟨W0.heap.size + 1, 0, none⟩) NM NM] 38) := ⟨_, rfl⟩
  have X3 : Hid (w3.heap[w2.heap.size]? = some (.cells #[.int .i64 NM, .slice (some ⟨G, 0, none⟩) NM NM] 38 (0, 0))) := by rw [h3w, hG]; exact World.alloc_heap_new w2 _
  have hb3 : Below w2.heap.size w2 w3 := by rw [h3w]; exact (Below.refl _ _).alloc (Nat.le_refl _) _
  have HB3 : Hid (Blk w3 G (rowsF NM (adjS (lfS m fs 0)))) := by show Blk _ _ _; rw [show adjS (lfS m fs 0) = fun _ _ => false from rfl, rowsF_none, hG]; exact hB2.belowAll hb3
  have E3 : Below W0.heap.size W0 w3 := hb2.trans (hb3.mono (by omega))
  have s3 : w2.heap.size + 1 ≤ w3.heap.size := (Array.getElem?_eq_some_iff.1 X3.out).1
  have HGW : Hid (w2.heap.size ≠ G) := by show _ ≠ _; omega
  have hG1 : W0.heap.size ≤ G := by omega
  have hGl : G < w2.heap.size := by omega
  have hw2 : W0.heap.size + 1 ≤ w2.heap.size := by omega
  rw [← hG] at h3w ⊢
  have hb2' := hb2
  obtain ⟨⟨b0, b1, b2⟩, -⟩ := three_cells ((hb2'.block w.heap.size (by omega)).trans HG0.out)
  clear hG hem hB2 hb2 hb2' hb3 l2
  go_wp2_with fail
  rw [← h3w]
  clear h3w b0 b1 b2
  go_loopw [5, 6] (fun fa i wr => ∃ j : Nat, j ≤ k ∧ i = .int .i64 j ∧ fa = .bool (fthO m fs j) ∧ Hid (Blk wr G (rowsF NM (adjS (lfS m fs j)))) ∧ Hid (wr.heap[w2.heap.size]? = some (.cells #[.int .i64 NM, .slice (some ⟨G, 0, none⟩) NM NM] 38 (0, 0))) ∧ Below W0.heap.size W0 wr ∧ w2.heap.size + 1 ≤ wr.heap.size) (fun _ i _ => k - (intOf i).toNat)
  case atStart => exact ⟨0, Nat.zero_le _, rfl, rfl, HB3, X3, E3, s3⟩
  case round =>
    clear HB3 X3 E3 s3
    obtain ⟨j, hjk, rfl, rfl, HB, HX, hE, hsz⟩ := hrel
    obtain ⟨⟨b0, b1, b2⟩, -⟩ := three_cells ((hE.block w.heap.size (by omega)).trans HG0.out)
    obtain ⟨wo, rfl⟩ : ∃ wo : World, wo = wr := ⟨_, rfl⟩
    by_cases hlt : j < k
    · have hlti : (j : Int) < k := by omega
      have hj0 : (0 : Int) ≤ j := by omega
      obtain ⟨e0, f0⟩ := HAV.out.zero hlt
      obtain ⟨e1, t0⟩ := HAV.out.one hlt
      obtain ⟨e2, c0⟩ := HAV.out.two hlt
      obtain ⟨b, off, rfl, hb, hcc⟩ : ∃ b off, sa = some ⟨b, off, none⟩ ∧ b < w.heap.size ∧ Cells w b off fs := by
        rcases HC.out.2 with ⟨_, _, _, e⟩ | ⟨b, off, _, e, h1, h2⟩
        · omega
        · injection e with e1 _ _
          exact ⟨b, off, e1, h1, h2⟩
      have DW : Below w.heap.size w wo := D0.trans (hE.mono (by omega))
      have HCW := hcc.below DW hb
      have z0 := HCW (j * 3) (by rw [HK.out]; omega)
      have z1 := HCW (j * 3 + 1) (by rw [HK.out]; omega)
      have z2 := HCW (j * 3 + 2) (by rw [HK.out]; omega)
      rw [e0] at z0
      rw [e1] at z1
      rw [e2] at z2
      rw [← Nat.add_assoc] at z1 z2
      obtain ⟨f, hf⟩ : ∃ f, f = av fs j 0 := ⟨_, rfl⟩
      obtain ⟨t, ht⟩ : ∃ t, t = av fs j 1 := ⟨_, rfl⟩
      obtain ⟨c, hc⟩ : ∃ c, c = av fs j 2 := ⟨_, rfl⟩
      rw [← hf] at z0 f0
      rw [← ht] at z1 t0
      rw [← hc] at z2 c0
      have HF := Lib.hid hf; have HTT := Lib.hid ht; have HCC := Lib.hid hc
      clear e0 e1 e2 hf ht hc HCW DW hcc
      go_wp2_with fail
      obtain ⟨w4, h4⟩ : ∃ w4, w4 = wo.alloc (.cells #[.int .i64 f, .int .i64 t, .int .i64 c] 51) := ⟨_, rfl⟩
      have X4 : Hid (w4.heap[wo.heap.size]? = some (.cells #[.int .i64 f, .int .i64 t, .int .i64 c] 51 (0, 0))) := by rw [h4]; exact World.alloc_heap_new wo _
      have hb4 : Below wo.heap.size wo w4 := by rw [h4]; exact (Below.refl _ _).alloc (Nat.le_refl _) _
      have HB4 : Hid (Blk w4 G (rowsF NM (adjS (lfS m fs j ++ arcN m fs j (List.range 0))))) := by show Blk _ _ _; rw [show lfS m fs j ++ arcN m fs j (List.range 0) = lfS m fs j from List.append_nil _]; exact HB.out.belowAll hb4
      have HX4 : Hid (w4.heap[w2.heap.size]? = some (.cells #[.int .i64 NM, .slice (some ⟨G, 0, none⟩) NM NM] 38 (0, 0))) := (hb4.block _ (by omega)).trans HX.out
      have hE4 := hE.trans (hb4.mono hE.size)
      have s4 : wo.heap.size + 1 ≤ w4.heap.size := by rw [h4]; simp
      rw [← h4]
      clear h4 hb4 b0 b1 b2 z0 z1 z2 HB HX hE
      go_loopw [5, 8] (fun fa i wr => ∃ i' : Nat, i' ≤ m ∧ i = .int .i64 i' ∧ fa = .bool (fthO m fs j && fthI m fs j i') ∧ Hid (Blk wr G (rowsF NM (adjS (lfS m fs j ++ arcN m fs j (List.range i'))))) ∧ Hid (wr.heap[w2.heap.size]? = some (.cells #[.int .i64 NM, .slice (some ⟨G, 0, none⟩) NM NM] 38 (0, 0))) ∧ Hid (wr.heap[wo.heap.size]? = some (.cells #[.int .i64 f, .int .i64 t, .int .i64 c] 51 (0, 0))) ∧ Below W0.heap.size W0 wr ∧ wo.heap.size + 1 ≤ wr.heap.size) (fun _ i _ => m - (intOf i).toNat)
      case atStart => exact ⟨0, Nat.zero_le _, rfl, by simp [fthI], HB4, HX4, X4, hE4, s4⟩
      case round =>
        clear HB4 HX4 X4 hE4 s4
        obtain ⟨i, him, rfl, rfl, HB, HX, HY, hE, hs5⟩ := hrel
        obtain ⟨⟨b0, b1, b2⟩, -⟩ := three_cells ((hE.block w.heap.size (by omega)).trans HG0.out)
        obtain ⟨⟨a0, a1, a2⟩, -⟩ := three_cells HY.out
        obtain ⟨x0, x1, -, -⟩ := two_cells HX.out
        by_cases hlm : i < m
        · have hlmi : (i : Int) < m := by omega
          have hi0 : (0 : Int) ≤ i := by omega
          have hpl := arcP_lt HAV.out (show 0 < m by omega) hlt hlm
          rw [← HNM.out] at hpl
          obtain ⟨q1, hq1⟩ : ∃ q, q = f * m := ⟨_, rfl⟩
          obtain ⟨q2, hq2⟩ : ∃ q, q = t * m := ⟨_, rfl⟩
          obtain ⟨s, hs⟩ : ∃ s, s = (i + c) % m := ⟨_, rfl⟩
          have e1 : (f : Int) * (m : Int) = (q1 : Int) := by rw [hq1]; push_cast; rfl
          have e2 : (t : Int) * (m : Int) = (q2 : Int) := by rw [hq2]; push_cast; rfl
          have e3 : Int.tmod ((i : Int) + c) (m : Int) = (s : Int) := by rw [hs]; push_cast; rfl
          obtain ⟨V, hV⟩ : ∃ V, V = (arcP m fs j i).1 := ⟨_, rfl⟩
          obtain ⟨R, hR⟩ : ∃ R, R = (arcP m fs j i).2 := ⟨_, rfl⟩
          have hV2 : V = q1 + i := by rw [hV, hq1, HF.out]; rfl
          have hR2 : R = q2 + s := by rw [hR, hq2, hs, HTT.out, HCC.out]; rfl
          rw [← hV, ← hR] at hpl
          have e4 : (q1 : Int) + i = (V : Int) := by omega
          have e5 : (q2 : Int) + s = (R : Int) := by omega
          have w1 : IntKind.i64.wrap ((q1 : Int)) = (q1 : Int) := IntWalk.i64_in _ (by omega)
          have w5 : IntKind.i64.wrap ((q2 : Int)) = (q2 : Int) := IntWalk.i64_in _ (by omega)
          have w2' : IntKind.i64.wrap ((i : Int) + c) = (i : Int) + c := IntWalk.i64_in _ (by omega)
          have w3' : IntKind.i64.wrap ((V : Int)) = (V : Int) := IntWalk.i64_in _ (by omega)
          have w4' : IntKind.i64.wrap ((R : Int)) = (R : Int) := IntWalk.i64_in _ (by omega)
          have w6' : IntKind.i64.wrap ((s : Int)) = (s : Int) := IntWalk.i64_in _ (by omega)
          have hm0 : ¬ m = 0 := by omega
          have HFI : Hid (fthI m fs j (i + 1) = (fthI m fs j i && !(V == R || adjS (lfS m fs j ++ arcN m fs j (List.range i)) V R))) := by show _ = _; rw [hV, hR]; rfl
          have HAY : Hid (V ≠ R → lfS m fs j ++ arcN m fs j (List.range (i + 1)) = lfS m fs j ++ arcN m fs j (List.range i) ++ [(V, R)]) := fun h => by
            rw [List.range_succ, arcN_yes (by rw [← hV, ← hR]; exact h), ← hV, ← hR, List.append_assoc]
          have HAN : Hid (V = R → lfS m fs j ++ arcN m fs j (List.range (i + 1)) = lfS m fs j ++ arcN m fs j (List.range i)) := fun h => by
            rw [List.range_succ, arcN_no (by rw [← hV, ← hR]; exact h)]
          obtain ⟨S, hS⟩ : ∃ S, S = lfS m fs j ++ arcN m fs j (List.range i) := ⟨_, rfl⟩
          rw [← hS] at HB HFI HAY HAN
          clear hq1 hq2 hs hV hR hV2 hR2 hS
          obtain ⟨A, hA⟩ : ∃ A, A = (fthO m fs j && fthI m fs j i) := ⟨_, rfl⟩
          have HA := Lib.hid hA
          rw [← hA]
          clear hA
          go_wp2_with fail
          go_quiet (fail)
          generalize hwd' : wr.drewN _ = wd
          have hwd := hwd'.symm
          clear hwd'
          have HBd : Hid (Blk wd G (rowsF NM (adjS S))) := by rw [hwd]; exact HB.out
          have HXd : Hid (wd.heap[w2.heap.size]? = some (.cells #[.int .i64 NM, .slice (some ⟨G, 0, none⟩) NM NM] 38 (0, 0))) := by rw [hwd]; exact HX.out
          have HYd : Hid (wd.heap[wo.heap.size]? = some (.cells #[.int .i64 f, .int .i64 t, .int .i64 c] 51 (0, 0))) := by rw [hwd]; exact HY.out
          have hEd : Below W0.heap.size W0 wd := by rw [hwd]; exact drewN_below hE _
          have hsd : wo.heap.size + 1 ≤ wd.heap.size := by rw [hwd]; exact hs5
          clear hwd HB HX HY hE hs5 x0 x1 a0 a1 a2 b0 b1 b2 e1 e2 e3 e4 e5 w1 w5 w2' w3' w4' w6'
          obtain ⟨x0, x1, -, -⟩ := two_cells HXd.out
          by_cases hVR : V = R
          · have t1 : ((V : Int) == (R : Int)) = true := by simp; omega
            have t2 : ((V : Int) != (R : Int)) = false := by simp; omega
            have HB6 : Hid (Blk wd G (rowsF NM (adjS (lfS m fs j ++ arcN m fs j (List.range (i + 1)))))) := by show Blk _ _ _; rw [HAN.out hVR]; exact HBd.out
            have HFF : Hid ((fthO m fs j && fthI m fs j (i + 1)) = false) := by show _ = _; rw [HFI.out, beq_iff_eq.2 hVR]; simp
            clear hVR HFI HAY HAN HBd
            go_wp2_with fail
            go_roundw
            case rel => exact ⟨i + 1, hlm, by go_num, by rw [HFF.out], HB6, HXd, HYd, hEd, hsd⟩
            case measure => simp [intOf]; omega
          · have t1 : ((V : Int) == (R : Int)) = false := by simp; omega
            have t2 : ((V : Int) != (R : Int)) = true := by simp; omega
            have hne : (V == R) = false := by simpa using hVR
            have HN := Lib.hid (HAY.out hVR)
            have hha := has_at NM G NM S V R wd HBd.out hpl.1 hpl.2 nm
            have HPU : Hid (∀ w5 : World, Below wd.heap.size wd w5 → Calls Tryd.prog 20 #[.agg #[.int .i64 NM, .slice (some ⟨G, 0, none⟩) NM NM], .int .i64 V, .int .i64 R] w5 fun e w' => (∃ v, e = .returned v) ∧ Blk w' G (rowsF NM (adjS (S ++ [(V, R)]))) ∧ w5.grownBy w' (some G)) := fun w5 h5 =>
              put_at NM G NM S V R V R w5 (HBd.out.belowAll h5) hpl.1 hpl.2 nm rfl rfl
            have HFN := HFI.out
            rw [hne, Bool.false_or] at HFN
            have HFN := Lib.hid HFN
            clear hVR HFI HAY HAN hne
            have HHA := Lib.hid hha
            clear hha
            go_wp2_with fail
            refine HHA.out.mono ?_
            rintro e w5 ⟨rfl, hb5⟩
            have HPW := Lib.hid (HPU.out w5 hb5)
            have HB5 := Lib.hid hb5
            obtain ⟨x0, x1, -, -⟩ := two_cells ((hb5.block w2.heap.size (by omega)).trans HXd.out)
            clear HHA HPU hb5
            cases hr : adjS S V R
            all_goals
              have HFF := HFN.out
              rw [hr] at HFF
              have HFF := Lib.hid HFF
              clear hr HFN
              go_wp2_with fail
              refine HPW.out.mono ?_
              rintro e w6 ⟨⟨v6, rfl⟩, hB6, hg6⟩
              have hb5 := HB5.out
              clear HPW HB5
              go_wp2_with fail
              have s5 := hb5.size
              have s6 := hg6.size
              have HB6 : Hid (Blk w6 G (rowsF NM (adjS (lfS m fs j ++ arcN m fs j (List.range (i + 1)))))) := by show Blk _ _ _; rw [HN.out]; exact hB6
              have HX6 : Hid (w6.heap[w2.heap.size]? = some (.cells #[.int .i64 NM, .slice (some ⟨G, 0, none⟩) NM NM] 38 (0, 0))) := (hg6.block _ (by omega) (fun e => by injection e with e; omega)).trans ((hb5.block _ (by omega)).trans HXd.out)
              have HY6 : Hid (w6.heap[wo.heap.size]? = some (.cells #[.int .i64 f, .int .i64 t, .int .i64 c] 51 (0, 0))) := (hg6.block _ (by omega) (fun e => by injection e with e; omega)).trans ((hb5.block _ (by omega)).trans HYd.out)
              have hE6 : Below W0.heap.size W0 w6 := (hEd.trans (hb5.mono hEd.size)).grown hg6 (by have := hEd.size; omega) (fun r e => by cases e; omega)
              clear hB6 hg6 hb5 x0 x1
              go_roundw
              case rel => exact ⟨i + 1, hlm, by go_num, by rw [HFF.out]; simp [HA.out], HB6, HX6, HY6, hE6, by omega⟩
              case measure => simp [intOf]; omega
        · obtain rfl : i = m := by omega
          have HB6 : Hid (Blk wr G (rowsF NM (adjS (lfS i fs (j + 1))))) := HB.out
          have HFF : Hid (fthO i fs (j + 1) = (fthO i fs j && fthI i fs j i)) := rfl
          clear HB
          go_wp2_with fail
          go_roundw
          case rel => exact ⟨j + 1, hlt, by go_num, by rw [HFF.out], HB6, HX, hE, by omega⟩
          case measure => simp [intOf]; omega
    · obtain rfl : j = k := by omega
      have RB := Lib.hid ((hE.block (w.heap.size + 1) (by omega)).trans HH1.out)
      obtain ⟨r0, r1, g0, g1⟩ := two_cells RB.out
      obtain ⟨x0, x1, -, -⟩ := two_cells HX.out
      go_wp2_with fail
      have hfin := two_set (a := .int .i64 NM) (b := .slice (some ⟨G, 0, none⟩) NM NM) RB.out
      refine bodyPost_ret (v := .tuple #[.agg #[.int .i64 NM, .slice (some ⟨G, 0, none⟩) NM NM], .bool (fthO m fs j)]) (results_cell2 (p := 2) (u := 3) (ty := 38) rfl _ _ (w.heap.size + 1) 38 _ (0, 0) _ rfl hfin Tryd.underlying38 rfl (by exact info27)) rfl ⟨⟨G, rfl, ?_, by omega⟩, ?_⟩
      · exact (HB.out.other (by simp; omega) _).other (by simp; omega) _
      · exact ((D0.trans (hE.mono (by omega))).setCell (p := ⟨w.heap.size + 1, 0, none⟩) (by simp) _).setCell (p := ⟨w.heap.size + 1, 1, none⟩) (by simp) _
end Go.Proofs.YtbacocldjcenjaaDoor
