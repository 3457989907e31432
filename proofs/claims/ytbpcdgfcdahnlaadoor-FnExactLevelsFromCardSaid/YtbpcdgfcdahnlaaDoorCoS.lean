/-
  spec.ComplementOf.
-/
import Derived.Test.YtbpcdgfcdahnlaaDoorGr
import Derived.BigRegion
namespace Go.Proofs.YtbpcdgfcdahnlaaDoor
set_option maxRecDepth 100000
open Go.RowKit

/-- The complement's rows. -/
def compL (n : Int) (zs : List Int) : List Int := (List.range zs.length).map (cm n zs)
theorem compL_length (n : Int) (zs : List Int) : (compL n zs).length = zs.length := by simp [compL]
theorem el_compL (n : Int) (zs : List Int) (v : Nat) (h : v < zs.length) : el (compL n zs) v = cm n zs v := by simp [el, compL, h]

theorem cm_at {zs : List Int} (hg : isG (zs.length : Int) zs = true) (hl : zs.length ≤ 62) (v : Nat) (hv : v < zs.length) :
    (0 ≤ el zs v ∧ el zs v ≤ 2 ^ zs.length - 1) ∧ bits .andNot .i64 (2 ^ zs.length - 1) (el zs v) = 2 ^ zs.length - 1 - el zs v ∧ bits .andNot .i64 (2 ^ zs.length - 1 - el zs v) (2 ^ v) = 2 ^ zs.length - 1 - el zs v - 2 ^ v ∧ 0 ≤ (2 : Int) ^ zs.length - 1 - el zs v - 2 ^ v := by
  have h4 := (isG_parts hg).2.2.2.1
  have h := rowsOk_at h4 hv
  have h0 := rowOk_ge h
  have h1 := rowOk_le h
  have h2 := rowOk_not h
  have := cm_bits (zs.length : Int) (el zs v) v h0 h1 (by omega) (by omega) h2
  rw [Int.toNat_natCast] at h1 this
  exact ⟨⟨h0, h1⟩, this⟩
theorem cm_len (zs : List Int) (v : Nat) : cm (zs.length : Int) zs v = 2 ^ zs.length - 1 - el zs v - 2 ^ v := by unfold cm; rw [Int.toNat_natCast]

set_option maxHeartbeats 1600000 in
theorem l01Compl_some (n : Int) (b off cap : Nat) (zs : List Int) (w : World) (hb : b < w.heap.size) (hc : Cells w b off zs) (hg : isG n zs = true) (hl : zs.length ≤ 9223372036854775807) :
    Calls Tryd.prog 64 #[.agg #[.int .i64 n, .slice (some ⟨b, off, none⟩) zs.length cap]] w fun e w' => e = .returned (.agg #[.int .i64 n, .slice (some ⟨w.heap.size + 3, 0, none⟩) zs.length zs.length]) ∧ Blk w' (w.heap.size + 3) (compL n zs) ∧ Below w.heap.size w w' := by
  obtain ⟨h1a, h1b, h3, -, -⟩ := isG_parts hg
  subst h3
  have hl62 : zs.length ≤ 62 := by omega
  have HR := Lib.hid (cm_at hg hl62)
  have hp := pow_bounds zs.length hl62
  have HP := Lib.hid hp
  clear hp
  have hcon := specEmpty_any zs.length ((w.alloc (.cells #[.int .i64 zs.length, .slice (some ⟨b, off, none⟩) zs.length cap] 28)).alloc (.cells #[.int .i64 0, .slice none 0 0] 28)) (by omega)
  simp only [World.size_alloc] at hcon
  have HG0 := Lib.hid (GBox.new (n := zs.length) (cap := cap) hb hc)
  have HH1 := Lib.hid (heap_new_at (w.alloc (.cells #[.int .i64 zs.length, .slice (some ⟨b, off, none⟩) zs.length cap] 28)) (.cells #[.int .i64 0, .slice none 0 0] 28) (w.heap.size + 1) (by simp))
  have hb2 : Below w.heap.size w ((w.alloc (.cells #[.int .i64 zs.length, .slice (some ⟨b, off, none⟩) zs.length cap] 28)).alloc (.cells #[.int .i64 0, .slice none 0 0] 28)) := ((Below.refl _ _).alloc (Nat.le_refl _) _).alloc (by simp) _
  clear hc hg
  go_enter Tryd.func64, Tryd.ntmps64
  have b0 := HG0.out.b0
  have b1 := HG0.out.b1
  go_wp2_with (go_at_call 93; refine hcon.mono ?_; rintro e w1 ⟨rfl, hB1, hb1⟩)
  have l1 := hB1.lt
  have G1 := HG0.out.below ((Below.refl (w.heap.size + 1) _).alloc (by simp) (.cells #[.int .i64 0, .slice none 0 0] 28))
  have G2 := G1.below (hb1.mono (by omega))
  have H1 := Lib.hid ((hb1.block (w.heap.size + 1) (by omega)).trans HH1.out)
  have E1 := hb2.trans (hb1.mono (by omega))
  obtain ⟨w2, h2⟩ : ∃ w2, w2 = w1.alloc (.cells #[.int .i64 zs.length, .slice (some ⟨w.heap.size + 1 + 1 + 1, 0, none⟩) zs.length zs.length] 28) := ⟨_, rfl⟩
  have X2 : Hid (w2.heap[w1.heap.size]? = some (.cells #[.int .i64 zs.length, .slice (some ⟨w.heap.size + 1 + 1 + 1, 0, none⟩) zs.length zs.length] 28 (0, 0))) := by rw [h2]; exact World.alloc_heap_new w1 _
  have hb3 : Below w1.heap.size w1 w2 := by rw [h2]; exact (Below.refl _ _).alloc (Nat.le_refl _) _
  rw [← h2]
  clear h2 b0 b1 hb1 hcon
  go_loopw [4] (fun i wr => ∃ v : Nat, v ≤ zs.length ∧ i = .int .i64 v ∧ Hid (Blk wr (w.heap.size + 1 + 1 + 1) (part (compL zs.length zs) v)) ∧ Hid (wr.heap[w1.heap.size]? = some (.cells #[.int .i64 zs.length, .slice (some ⟨w.heap.size + 1 + 1 + 1, 0, none⟩) zs.length zs.length] 28 (0, 0))) ∧ Below (w.heap.size + 1 + 1) w2 wr) (fun i _ => zs.length - (intOf i).toNat)
  case atStart => exact ⟨0, Nat.zero_le _, rfl, by show Blk _ _ _; rw [part_zero, compL_length]; exact hB1.belowAll hb3, X2, Below.refl _ _⟩
  case round =>
    obtain ⟨v, hv, rfl, HO, HX, hB⟩ := hrel
    have G3 := G2.below (hb3.mono (by omega))
    have G4 := G3.below (hB.mono (by omega))
    have b0 := G4.b0
    have b1 := G4.b1
    obtain ⟨x0, x1, -, -⟩ := two_cells HX.out
    by_cases hlt : (v : Int) < zs.length
    · have hvl : v < zs.length := by omega
      have hz : wr.cell? ⟨b, off + v, none⟩ = some (.int .i64 (el zs v)) := G4.cells v hvl
      have hv0 : (0 : Int) ≤ v := by omega
      have hpl := part_length (compL zs.length zs) v (by rw [compL_length]; exact hv)
      rw [compL_length] at hpl
      have hcell : wr.cell? ⟨w.heap.size + 1 + 1 + 1, v, none⟩ = some (.int .i64 (el (part (compL zs.length zs) v) v)) := HO.out.cell (by omega)
      have hfr : wr.frozen? ⟨w.heap.size + 1 + 1 + 1, v, none⟩ = false := HO.out.frozen v
      obtain ⟨⟨z0, z1⟩, -, -, z2⟩ := HR.out v hvl
      obtain ⟨p1, p2⟩ := HP.out
      obtain ⟨q1, q2⟩ := pow_bounds v (by omega)
      have HS : Hid (Blk (wr.setCell ⟨w.heap.size + 1 + 1 + 1, v, none⟩ (.int .i64 (2 ^ zs.length - 1 - el zs v - 2 ^ v))) (w.heap.size + 1 + 1 + 1) (part (compL zs.length zs) (v + 1))) := by
        show Blk _ _ _
        rw [← part_succ (compL zs.length zs) v (by rw [compL_length]; exact hvl), el_compL _ zs v hvl, cm_len]
        exact HO.out.set v _
      have HX2 : Hid ((wr.setCell ⟨w.heap.size + 1 + 1 + 1, v, none⟩ (.int .i64 (2 ^ zs.length - 1 - el zs v - 2 ^ v))).heap[w1.heap.size]? = _) := (Below.heap_setCell wr ⟨w.heap.size + 1 + 1 + 1, v, none⟩ _ w1.heap.size (by simp; omega)).trans HX.out
      have hBs := hB.setCell (p := ⟨w.heap.size + 1 + 1 + 1, v, none⟩) (by simp) (.int .i64 (2 ^ zs.length - 1 - el zs v - 2 ^ v))
      clear hpl HO HX G4 G3
      go_wp2
      go_region
      go_wp2
      go_roundw
      case rel => exact ⟨v + 1, by omega, by go_num, HS, HX2, hBs.drew⟩
      case measure => simp [intOf]; omega
    · have hvl : v = zs.length := by omega
      subst hvl
      have RB := Lib.hid ((hB.block (w.heap.size + 1) (by omega)).trans ((hb3.block (w.heap.size + 1) (by omega)).trans H1.out))
      obtain ⟨r0, r1, g0, g1⟩ := two_cells RB.out
      have HF : Hid (Blk wr (w.heap.size + 1 + 1 + 1) (compL zs.length zs)) := by
        have h := HO.out
        have e := part_all (compL zs.length zs)
        rw [compL_length] at e
        rw [e] at h
        exact h
      clear HO G4 G3
      go_wp2
      have hfin := two_set (a := .int .i64 zs.length) (b := .slice (some ⟨w.heap.size + 1 + 1 + 1, 0, none⟩) zs.length zs.length) RB.out
      refine bodyPost_ret (v := .agg #[.int .i64 zs.length, .slice (some ⟨w.heap.size + 3, 0, none⟩) zs.length zs.length]) (results_cell_row (p := 2) (ty := 28) rfl _ _ (w.heap.size + 1) 28 _ (0, 0) _ rfl hfin Tryd.underlying28 rfl (by exact info27)) rfl ⟨rfl, ?_, ?_⟩
      · exact (HF.out.other (by simp; omega) _).other (by simp; omega) _
      · exact ((E1.trans ((hb3.mono (by omega)).trans (hB.mono (by omega)))).setCell (p := ⟨w.heap.size + 1, 0, none⟩) (by simp) _).setCell (p := ⟨w.heap.size + 1, 1, none⟩) (by simp) _
theorem results_cell2 {P : Program} {fn : Func} {p u : Tmp} {ty : TypeId} (h : fn.results = #[.cell p ty, .tmp u]) (tmps : Array Value) (w : World) (g : Nat) (t : TypeId) (cs : Array Value) (fr : Nat × Nat) (d : TypeDesc)
    (hp : tmps.getD p undef = .pointer (some ⟨g, 0, none⟩)) (hg : w.heap[g]? = some (.cells cs t fr))
    (hu : P.underlying ty = some d) (hd : (match d with | .struct _ | .array _ _ => true | _ => false) = true) (hi : (P.info? ty).map (·.size) = some cs.size) :
    (results fn tmps).run P w = .ok (.tuple #[.agg cs, tmps.getD u undef]) w := by
  have hp' : tmps[p]?.getD undef = .pointer (some ⟨g, 0, none⟩) := by simpa using hp
  simp only [results, h]
  simp [hp', asAddr, run_loadVar_row w g t ty cs fr d hg hu hd hi]

/-- The complement and its code. -/
def CL (n : Int) (zs : List Int) : List Int := if isG n zs then compL n zs else []
def CN (n : Int) (zs : List Int) : Int := if isG n zs then n else 0
def CC (n : Int) (zs : List Int) : Int := if isG n zs then 0 else 1
theorem CL_length (n : Int) (zs : List Int) : (CL n zs).length ≤ zs.length := by unfold CL; split <;> simp [compL_length]

set_option maxHeartbeats 800000 in
theorem specCo_yes (n : Int) (b off cap : Nat) (zs : List Int) (w : World) (hb : b < w.heap.size) (hc : Cells w b off zs) (hg : isG n zs = true) (hl : zs.length ≤ 9223372036854775807) :
    Calls Tryd.prog 35 #[.agg #[.int .i64 n, .slice (some ⟨b, off, none⟩) zs.length cap]] w fun e w' => GRes w.heap.size n (compL n zs) 0 e w' ∧ Below w.heap.size w w' := by
  have D0 : Below w.heap.size w ((w.alloc (.cells #[.int .i64 n, .slice (some ⟨b, off, none⟩) zs.length cap] 28)).alloc (.cells #[.int .i64 0, .slice none 0 0] 28)) := ((Below.refl _ _).alloc (Nat.le_refl _) _).alloc (by simp) _
  have his := l01Is_some n b off cap zs _ (Nat.lt_of_lt_of_le hb D0.size) (hc.below D0 hb) hl
  rw [hg] at his
  simp only [World.size_alloc] at his
  have HG0 := Lib.hid (GBox.new (n := n) (cap := cap) hb hc)
  have HH1 := Lib.hid (heap_new_at (w.alloc (.cells #[.int .i64 n, .slice (some ⟨b, off, none⟩) zs.length cap] 28)) (.cells #[.int .i64 0, .slice none 0 0] 28) (w.heap.size + 1) (by simp))
  have HG := Lib.hid hg
  clear hc hg
  go_enter Tryd.func35, Tryd.ntmps35
  have G1 := HG0.out.below ((Below.refl (w.heap.size + 1) _).alloc (by simp) (.cells #[.int .i64 0, .slice none 0 0] 28))
  have b0 := G1.b0
  have b1 := G1.b1
  go_wp2_with (go_at_call 52; refine his.mono ?_; rintro e w1 ⟨rfl, hb1⟩; have G2 := G1.below (hb1.mono (by omega)); have b0 := G2.b0; have b1 := G2.b1)
  refine (l01Compl_some n b off cap zs w1 G2.lb G2.cells HG.out hl).mono ?_
  rintro e w2 ⟨rfl, hB2, hb2⟩
  have l1 : w.heap.size + 1 + 1 ≤ w1.heap.size := by have := hb1.size; simpa using this
  have RB := Lib.hid ((hb2.block (w.heap.size + 1) (by omega)).trans ((hb1.block (w.heap.size + 1) (by omega)).trans HH1.out))
  obtain ⟨r0, r1, g0, g1⟩ := two_cells RB.out
  have HB2 := Lib.hid hB2
  have E2 := D0.trans ((hb1.mono (by omega)).trans (hb2.mono (by omega)))
  clear hb1 hb2 hB2 G2 b0 b1
  go_wp2
  have hfin := two_set (a := .int .i64 n) (b := .slice (some ⟨w1.heap.size + 3, 0, none⟩) zs.length zs.length) RB.out
  refine bodyPost_ret (v := .tuple #[.agg #[.int .i64 n, .slice (some ⟨w1.heap.size + 3, 0, none⟩) zs.length zs.length], .int .i64 0]) (results_cell2 (p := 2) (u := 3) (ty := 28) rfl _ _ (w.heap.size + 1) 28 _ (0, 0) _ rfl hfin Tryd.underlying28 rfl (by exact info27)) rfl ⟨⟨_, rfl, ?_⟩, ?_⟩
  · have h := Own.of_blk ((HB2.out.other (a := ⟨w.heap.size + 1, 0, none⟩) (by simp; omega) (.int .i64 n)).other (a := ⟨w.heap.size + 1, 1, none⟩) (by simp; omega) (.slice (some ⟨w1.heap.size + 3, 0, none⟩) zs.length zs.length)) (B := w.heap.size) (by omega) (by rw [compL_length]; unfold maxLen; have := isG_parts HG.out; omega)
    rw [compL_length] at h
    exact h
  · exact (E2.setCell (p := ⟨w.heap.size + 1, 0, none⟩) (by simp) _).setCell (p := ⟨w.heap.size + 1, 1, none⟩) (by simp) _

set_option maxHeartbeats 800000 in
theorem specCo_no (n : Int) (v : Value) (zs : List Int) (w : World) (h : Sl w v zs) (hg : isG n zs = false) (hl : zs.length ≤ 9223372036854775807) :
    Calls Tryd.prog 35 #[.agg #[.int .i64 n, v]] w fun e w' => GRes w.heap.size 0 [] 1 e w' ∧ Below w.heap.size w w' := by
  have D0 : Below w.heap.size w ((w.alloc (.cells #[.int .i64 n, v] 28)).alloc (.cells #[.int .i64 0, .slice none 0 0] 28)) := ((Below.refl _ _).alloc (Nat.le_refl _) _).alloc (by simp) _
  have his := l01Is_any n v zs _ (h.below D0) hl
  rw [hg] at his
  simp only [World.size_alloc] at his
  have HH1 := Lib.hid (heap_new_at (w.alloc (.cells #[.int .i64 n, v] 28)) (.cells #[.int .i64 0, .slice none 0 0] 28) (w.heap.size + 1) (by simp))
  clear h hg
  go_enter Tryd.func35, Tryd.ntmps35
  go_wp2_with (go_at_call 52; refine his.mono ?_; rintro e w1 ⟨rfl, hb1⟩; have RB := Lib.hid ((hb1.block (w.heap.size + 1) (by omega)).trans HH1.out); obtain ⟨r0, r1, g0, g1⟩ := two_cells RB.out)
  have hfin := two_set (a := .int .i64 0) (b := .slice none 0 0) RB.out
  refine bodyPost_ret (v := .tuple #[.agg #[.int .i64 0, .slice none 0 0], .int .i64 1]) (results_cell2 (p := 2) (u := 3) (ty := 28) rfl _ _ (w.heap.size + 1) 28 _ (0, 0) _ rfl hfin Tryd.underlying28 rfl (by exact info27)) rfl ⟨⟨_, rfl, Own.nil _ _⟩, ?_⟩
  exact ((D0.trans (hb1.mono (by omega))).setCell (p := ⟨w.heap.size + 1, 0, none⟩) (by simp) _).setCell (p := ⟨w.heap.size + 1, 1, none⟩) (by simp) _

theorem specCo_any (n : Int) (v : Value) (zs : List Int) (w : World) (h : Sl w v zs) (hl : zs.length ≤ 9223372036854775807) :
    Calls Tryd.prog 35 #[.agg #[.int .i64 n, v]] w fun e w' => GRes w.heap.size (CN n zs) (CL n zs) (CC n zs) e w' ∧ Below w.heap.size w w' := by
  cases hg : isG n zs
  · rw [show CL n zs = [] by simp [CL, hg], show CN n zs = 0 by simp [CN, hg], show CC n zs = 1 by simp [CC, hg]]
    exact specCo_no n v zs w h hg hl
  · rw [show CL n zs = compL n zs by simp [CL, hg], show CN n zs = n by simp [CN, hg], show CC n zs = 0 by simp [CC, hg]]
    obtain ⟨b, off, cap, rfl, hb, hc⟩ := sl_some h (by have := (isG_parts hg).2.2.1; have := (isG_parts hg).1; omega)
    exact specCo_yes n b off cap zs w hb hc hg hl
end Go.Proofs.YtbpcdgfcdahnlaaDoor
