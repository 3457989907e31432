/-
  impl.cyclesThrough. (gen/mk_cz9.py)
-/
import Derived.Test.YtabkfihhfkmioaaDoorCx9
import Derived.Test.YtabkfihhfkmioaaDoorGx8
namespace Go.Proofs.YtabkfihhfkmioaaDoor
set_option maxRecDepth 100000
open Go.RowKit Go.Shelf

attribute [local go_sem] Oper.semAt_some

theorem ct_few {zs : List Int} {x y g : Nat} {ls : List Nat} (hx : x < zs.length) (hok : LvOk zs x (2 ^ y) ls) (hg : 3 ≤ g) (h : ls.length < g) : ctN zs x y g = 0 := by
  unfold ctN
  refine if_neg fun e => ?_
  have h1 := (cyD_lev (k := g - 1) hx).2 (show cyD zs x (2 ^ y) y = ((g - 1 : Nat) : Int) by omega)
  rw [lev_out hok.last (by omega)] at h1; cases h1
theorem ct_all {zs : List Int} {x y g : Nat} (h3 : 3 ≤ g) (hgc : (g : Int) ≤ cyc zs x y) : wyD zs (cyD zs x (2 ^ y)) x (g - 1) y = ctN zs x y g := by
  unfold ctN wyD
  unfold cyc at hgc
  generalize cyD zs x (2 ^ y) = D at *
  by_cases e : D y + 1 = (g : Int)
  · rw [if_pos e, if_pos (by omega)]
  · rw [if_neg e]
    refine if_neg fun e2 => e ?_
    rw [if_pos e2.1] at hgc
    omega
theorem AW.put {W X : World} {B : Nat} {f : Nat → Int} (h : AW W B f) (e : X.heap[B]? = W.heap[B]?) : AW X B f := e.trans h

theorem own_cap {w : World} {B gl capl n : Nat} {e : TypeId} {xs : List Value} (h : w.ownsRow B e 1 (.slice (some ⟨gl, 0, none⟩) n capl) n xs) : gl < w.heap.size ∧ n ≤ capl ∧ B ≤ gl := by
  rcases h.2 with ⟨h1, _⟩ | ⟨g, cp, cur, h1, h2, h3, h4, _⟩
  · cases h1
  · cases h1
    exact ⟨(Array.getElem?_eq_some_iff.1 h3).1, h4, h2⟩
/-- Behind the call: the levels are in a box. -/
def CtR (Wb : World) (zs : List Int) (x y : Nat) (t : Value) (Z : World) : Prop := ∃ (LB gl capl : Nat) (ls : List Nat), t = .pointer (some ⟨LB, 0, none⟩) ∧ Hid (Bx Z LB 22 (.slice (some ⟨gl, 0, none⟩) ls.length capl)) ∧ Hid (∀ (k r : Nat), ls[k]? = some r → Z.cell? ⟨gl, k, none⟩ = some (.int .i64 (r : Int))) ∧ gl < Z.heap.size ∧ ls.length ≤ capl ∧ Hid (LvOk zs x (2 ^ y) ls) ∧ Below Wb.heap.size Wb Z ∧ Wb.heap.size ≤ LB
theorem CtR.new {Wb w5 : World} {B : Nat} {zs : List Int} {x y gl capl : Nat} {ls : List Nat} (hown : w5.ownsRow B 2 1 (.slice (some ⟨gl, 0, none⟩) ls.length capl) ls.length (natsV ls)) (hok : LvOk zs x (2 ^ y) ls) (hb : Below Wb.heap.size Wb w5) :
    CtR Wb zs x y (.pointer (some ⟨w5.heap.size, 0, none⟩)) (w5.alloc (.cells #[.slice (some ⟨gl, 0, none⟩) ls.length capl] 22)) := by
  obtain ⟨h1, h2, _⟩ := own_cap hown
  refine ⟨w5.heap.size, gl, capl, ls, rfl, World.alloc_heap_new w5 _, fun k r hr => ?_, by simp; omega, h2, hok, hb.alloc hb.size _, hb.size⟩
  have hk : k < ls.length := (List.getElem?_eq_some_iff.1 hr).1
  exact (World.cell?_of_block (a := ⟨gl, k, none⟩) (Below.heap_alloc w5 _ gl h1)).trans ((World.ownsRow.cellAt hown k (by simpa using hk)).trans (natsV_at7 hr))
theorem CtR.old {Wb w5 : World} {B : Nat} {zs : List Int} {x y gl capl : Nat} {ls : List Nat} (hown : w5.ownsRow B 2 1 (.slice (some ⟨gl, 0, none⟩) ls.length capl) ls.length (natsV ls)) (hB : Wb.heap.size < B) (hok : LvOk zs x (2 ^ y) ls) (hb : Below Wb.heap.size Wb w5) (hbx : Bx w5 Wb.heap.size 22 (.slice none 0 0)) :
    CtR Wb zs x y (.pointer (some ⟨Wb.heap.size, 0, none⟩)) (w5.setCell ⟨Wb.heap.size, 0, none⟩ (.slice (some ⟨gl, 0, none⟩) ls.length capl)) := by
  obtain ⟨h1, h2, h3⟩ := own_cap hown
  refine ⟨Wb.heap.size, gl, capl, ls, rfl, Bx.set hbx _, fun k r hr => ?_, by simpa using h1, h2, hok, hb.setCell (p := ⟨Wb.heap.size, 0, none⟩) (Nat.le_refl _) _, Nat.le_refl _⟩
  have hk : k < ls.length := (List.getElem?_eq_some_iff.1 hr).1
  exact (World.cell?_setCell_far _ _ _ _ (by simp; omega)).trans ((World.ownsRow.cellAt hown k (by simpa using hk)).trans (natsV_at7 hr))

set_option maxHeartbeats 6400000 in
theorem cycles_in (b off cap : Nat) (zs : List Int) (x y g : Nat) (w : World) (hb : b < w.heap.size) (hc : Cells w b off zs) (hT : Tab w) (hg : isG zs.length zs = true) (hx : x < zs.length) (hy : y < zs.length) (hg3 : 3 ≤ g) (hgc : (g : Int) ≤ cyc zs x y) :
    CallsIn Fence.wide 9 Tryd.prog 89 #[.agg #[.int .i64 zs.length, .slice (some ⟨b, off, none⟩) zs.length cap], .int .i64 x, .int .i64 y, .int .i64 g] w fun e w' => e = .returned (.int .i64 (ctN zs x y g)) ∧ Below w.heap.size w w' := by
  obtain ⟨g1, g2, -, g4, g5⟩ := isG_iff.1 hg
  have h62 : zs.length ≤ 62 := by omega
  have hp62 : 2 ^ zs.length ≤ 2 ^ 62 := Nat.pow_le_pow_right (by decide) h62
  have hg63 : g ≤ 63 := by have := cyc_le (w := y) h62 hx; omega
  have HZ : Hid (∀ k, k < zs.length → 0 ≤ el zs k ∧ (el zs k).toNat < 2 ^ zs.length) := fun k hk => ⟨(g4 k hk).1, (g4 k hk).2.1⟩
  have HSY := Lib.hid g5
  have hT0 := hT.lt
  have HT := Lib.hid hT
  have HC := Lib.hid hc
  have HCT := Lib.hid (ct_all hg3 hgc)
  have HCF : Hid (∀ ls : List Nat, LvOk zs x (2 ^ y) ls → ls.length < g → ctN zs x y g = 0) := fun ls h1 h2 => ct_few hx h1 hg3 h2
  have HDZ : Hid (∀ v, cyD zs x (2 ^ y) v = 0 ↔ v = x) := fun v => cyD_zero hx v
  have HDF : Hid (∀ v, zs.length ≤ v → cyD zs x (2 ^ y) v = -1) := fun v h => cyD_far hx h
  have HDL : Hid (∀ k v, lev (Rw zs x (2 ^ y)) zs.length x k v = (cyD zs x (2 ^ y) v == (k : Int))) := fun k v => cyD_levB hx v
  generalize hDc : cyD zs x (2 ^ y) = D at *
  clear hDc
  obtain ⟨CT, hCT⟩ : ∃ CT, CT = ctN zs x y g := ⟨_, rfl⟩
  rw [← hCT] at HCT HCF ⊢
  clear hCT hgc g4 g5
  have HLR : Hid (∀ W, Below w.heap.size w W → Calls Tryd.prog 114 #[.agg #[.int .i64 zs.length, .slice (some ⟨b, off, none⟩) zs.length cap], .int .i64 x, .int .i64 (2 ^ y)] W fun e w' => ∃ (ls : List Nat) (gl capl : Nat), e = .returned (.slice (some ⟨gl, 0, none⟩) ls.length capl) ∧ w'.ownsRow W.heap.size 2 1 (.slice (some ⟨gl, 0, none⟩) ls.length capl) ls.length (natsV ls) ∧ LvOk zs x (2 ^ y) ls ∧ Below W.heap.size W w') := fun W h => by
    have := levelRows_form b off cap zs x (2 ^ y) W (Nat.lt_of_lt_of_le hb h.size) (HC.out.below h hb) (HT.out.belowAll h) hg hx
    rw [show ((2 ^ y : Nat) : Int) = (2 : Int) ^ y by simp] at this
    exact this
  have hy0 : (0 : Int) ≤ y := by omega
  have hym : (y : Int) < 62 := by omega
  have hpw := pow_bounds y (by omega)
  have hwr := i64_pow (y : Int) (by omega)
  rw [Int.toNat_natCast] at hwr
  obtain ⟨Wb, hWb⟩ : ∃ Wb, Wb = w.alloc (.cells #[.int .i64 zs.length, .slice (some ⟨b, off, none⟩) zs.length cap] 26) := ⟨_, rfl⟩
  have D0 : Below w.heap.size w Wb := by rw [hWb]; exact (Below.refl _ _).alloc (Nat.le_refl _) _
  have HDB := Lib.hid D0
  have p1 : w.heap.size < Wb.heap.size := by rw [hWb]; simp
  have p2 : ¬ w.heap.size = Wb.heap.size := by omega
  have p3 : ¬ Wb.heap.size = w.heap.size := by omega
  have HGB : Hid (Wb.heap[w.heap.size]? = some (.cells #[.int .i64 zs.length, .slice (some ⟨b, off, none⟩) zs.length cap] 26 (0, 0))) := by show _ = _; rw [hWb]; exact World.alloc_heap_new w _
  obtain ⟨b0, b1, -, -⟩ := two_cells HGB.out
  clear hc hT hg D0
  refine callsIn_of_wp_marks Tryd.func89 rfl trivial ?_ rfl
  simp only [Tryd.ntmps89, List.size_toArray, List.length_cons, List.length_nil, Nat.reduceAdd, Nat.reduceSub, Array.replicate_succ, Array.replicate_zero, List.push_toArray, List.append_toArray, List.nil_append, List.cons_append]
  gi_upto_region 1 with fail
  refine at_world (w' := Wb) ?_ (by rw [hWb])
  clear hWb
  gi_cut [9] from 15 (fun t Z => CtR Wb zs x y t Z)
  case first =>
    have hmix := mixed
    refine wpIn_calm ?_
    gi_region_with_o (first
      | (refine ⟨trivial, ?_⟩; gi_at_call 114; refine (callsIn_wide.2 (HLR.out _ HDB.out.drew)).mono ?_; rintro e w5 ⟨ls, gl, capl, rfl, hown, hok, hb5⟩)
      | (refine ⟨trivial, ?_⟩; gi_at_call 114; refine (callsIn_wide.2 (HLR.out _ (HDB.out.drew.alloc (by simp; omega) _))).mono ?_; rintro e w5 ⟨ls, gl, capl, rfl, hown, hok, hb5⟩; have hbx5 : Bx w5 Wb.heap.size 22 (.slice none 0 0) := (hb5.block _ (by simp)).trans (World.alloc_heap_new _ _); have c5 := hbx5.cell; have f5 := hbx5.frozen))
    all_goals
      gi_wp2_with fail
      gi_meet
      have hbW : Below Wb.heap.size Wb w5 := by
        first
          | exact ((Below.refl _ _).drew).trans (hb5.mono (Nat.le_refl _))
          | exact (((Below.refl _ _).drew).alloc (by simp) _).trans (hb5.mono (by simp))
          | exact (((Below.refl _ _).alloc (Nat.le_refl _) _).drew).trans (hb5.mono (by simp))
      first
        | exact CtR.new hown hok hbW
        | exact CtR.old hown (by simp) hok hbW hbx5
  case rest =>
    obtain ⟨LB, gl, capl, ls, rfl, HLB, HLS, hglt, hcapl, HOK, hBZ, hLB⟩ := hcut
    have HBW : Hid (Below w.heap.size w wc) := HDB.out.trans (hBZ.mono (Nat.le_of_lt p1))
    have HGZ : Hid (wc.heap[w.heap.size]? = some (.cells #[.int .i64 zs.length, .slice (some ⟨b, off, none⟩) zs.length cap] 26 (0, 0))) := (hBZ.block _ p1).trans HGB.out
    have hwz : w.heap.size < wc.heap.size := (Array.getElem?_eq_some_iff.1 HGZ.out).1
    have hLz : LB < wc.heap.size := HLB.out.lt
    have hLw : w.heap.size < LB := by omega
    clear b0 b1 HGB HDB hBZ HLR hwr hpw hLB p1 p2 p3
    have cL := HLB.out.cell
    by_cases hsh : ls.length < g
    · have hshi : (ls.length : Int) < g := by omega
      have HR := Lib.hid (HCF.out ls HOK.out hsh)
      gi_wp2_with fail
      refine leaves_marks (H := w.heap.size) [] _ ⟨List.nodup_nil, by simp⟩ fun W' hss hb' => ?_
      exact ⟨_, results_tmp rfl _ _ _, by rw [HR.out]; rfl, HBW.out.trans hb'⟩
    · have hshi : ¬ (ls.length : Int) < g := by omega
      gi_upto_region 5 with fail
      obtain ⟨Wc, hWc⟩ : ∃ Wc, Wc = wc.alloc (.cells (rowsA fun _ => 0) 97) := ⟨_, rfl⟩
      refine at_world (w' := Wc) ?_ (by rw [hWc]; rfl)
      have HAC : Hid (AW Wc wc.heap.size (fun _ => 0)) := by show AW _ _ _; rw [hWc]; exact World.alloc_heap_new wc _
      have HBC : Hid (Below wc.heap.size wc Wc) := by show Below _ _ _; rw [hWc]; exact (Below.refl _ _).alloc (Nat.le_refl _) _
      have ca := HAC.out.cell (j := x) (by omega)
      have cf := HAC.out.frozen x
      have hx0 : (0 : Int) ≤ x := by omega
      have hx62 : (x : Int) < 62 := by omega
      clear hWc cL
      gi_upto_region 6 with fail
      obtain ⟨W0, hW0⟩ : ∃ W0, W0 = Wc.setCell ⟨wc.heap.size, x, none⟩ (.int .i64 1) := ⟨_, rfl⟩
      refine at_world (w' := W0) ?_ (by rw [hW0])
      have HA0 : Hid (AW W0 wc.heap.size (wyD zs D x 0)) := by
        show AW _ _ _
        rw [hW0]
        exact (HAC.out.set (by omega) 1).congr fun i _ => (wyD_zero HDZ.out i).symm
      have HB0 : Hid (Below wc.heap.size wc W0) := by show Below _ _ _; rw [hW0]; exact HBC.out.setCell (p := ⟨wc.heap.size, x, none⟩) (Nat.le_refl _) _
      have s0 : wc.heap.size < W0.heap.size := HA0.out.lt
      have cL := (HLB.out : Bx wc LB _ _)
      have cL2 : W0.cell? ⟨LB, 0, none⟩ = some (.slice (some ⟨gl, 0, none⟩) ls.length capl) := Bx.cell ((HB0.out.block _ hLz).trans cL)
      have hg1 : (1 : Int) ≤ g := by omega
      have hgc : (g : Int) ≤ capl := by omega
      have hg0 : (0 : Int) ≤ g := by omega
      clear hW0 ca cf HAC HBC cL
      gi_wp2_with fail
      rename_i hKE
      have HKE := Lib.hid hKE
      clear hKE
      have HLV : Hid (∀ (k r : Nat), ls[k]? = some r → r < 2 ^ zs.length ∧ ∀ v, r.testBit v = (D v == (k : Int))) := fun k r h => ⟨(HOK.out.bit k r h).1, fun v => by rw [(HOK.out.bit k r h).2 v, HDL.out]⟩
      have HFX : Hid (∀ W : World, (∀ k, k < W0.heap.size → k ≠ wc.heap.size → W.heap[k]? = W0.heap[k]?) → Below w.heap.size w W → W.cell? ⟨w.heap.size, 0, none⟩ = some (.int .i64 zs.length) ∧ W.cell? ⟨w.heap.size, 1, none⟩ = some (.slice (some ⟨b, off, none⟩) zs.length cap) ∧ W.cell? ⟨LB, 0, none⟩ = some (.slice (some ⟨gl, 0, none⟩) ls.length capl) ∧ (∀ (k r : Nat), ls[k]? = some r → W.cell? ⟨gl, k, none⟩ = some (.int .i64 (r : Int))) ∧ (∀ i : Nat, i < zs.length → W.cell? ⟨b, off + i, none⟩ = some (.int .i64 (el zs i)))) := fun W h1 h2 => by
        have old : ∀ k, k < wc.heap.size → W.heap[k]? = wc.heap[k]? := fun k hk => (h1 k (by omega) (by omega)).trans (HB0.out.block k hk)
        obtain ⟨z0, z1, -, -⟩ := two_cells ((old _ hwz).trans HGZ.out)
        exact ⟨z0, z1, Bx.cell ((old _ hLz).trans HLB.out), fun k r hr => (World.cell?_of_block (a := ⟨gl, k, none⟩) (old gl hglt)).trans (HLS.out k r hr), fun i hi => (HC.out.below h2 hb) i hi⟩
      have HEW : Hid (Below w.heap.size w W0) := HBW.out.trans (HB0.out.mono HBW.out.size)
      clear HCF HLB HLS HGZ HB0 HBW cL2
      refine wpIn_loop (fun a W => ∃ (d : Nat) (Ds : List Nat) (u5 u6 u7 u8 u11 u12 u13 u14 u15 u16 u17 u18 u19 u20 u21 u22 u23 u24 u25 u26 u27 u31 u32 u33 u34 u35 u36 u37 u38 u39 u40 u41 u42 u43 u44 u45 u46 u47 u48 u49 u50 u51 u52 u53 u54 u55 u56 u57 u58 u59 u60 u61 : Value), a = { tmps := #[.agg #[.int .i64 zs.length, .slice (some ⟨b, off, none⟩) zs.length cap], .int .i64 x, .int .i64 y, .int .i64 g, .pointer (some ⟨w.heap.size, 0, none⟩), u5, u6, u7, u8, .pointer (some ⟨LB, 0, none⟩), .pointer (some ⟨wc.heap.size, 0, none⟩), u11, u12, u13, u14, u15, u16, u17, u18, u19, u20, u21, u22, u23, u24, u25, u26, u27, .slice (some ⟨gl, 1, none⟩) (g - 1) (capl - 1), .int .i64 ((g - 1 : Nat) : Int), .int .i64 d, u31, u32, u33, u34, u35, u36, u37, u38, u39, u40, u41, u42, u43, u44, u45, u46, u47, u48, u49, u50, u51, u52, u53, u54, u55, u56, u57, u58, u59, u60, u61], defers := marks Ds } ∧
        d ≤ g - 1 ∧ Hid (AW W wc.heap.size (wyD zs D x d)) ∧ Hid (∀ k, k < W0.heap.size → k ≠ wc.heap.size → W.heap[k]? = W0.heap[k]?) ∧ Below w.heap.size w W ∧ DsOk W0.heap.size W Ds ∧ W0.heap.size ≤ W.heap.size) (fun a _ => (g - 1) - (intOf (a.tmps.getD 30 undef)).toNat) ?h0 ?round
      case h0 => exact ⟨0, [], _, _, _, _, _, _, _, _, _, _, _, _, _, _, _, _, _, _, _, _, _, _, _, _, _, _, _, _, _, _, _, _, _, _, _, _, _, _, _, _, _, _, _, _, _, _, _, _, _, _, _, _, rfl, Nat.zero_le _, HA0, fun _ _ _ => rfl, HEW.out, ⟨List.nodup_nil, by simp⟩, Nat.le_refl _⟩
      case round =>
        rintro a W ⟨d, Ds, u5, u6, u7, u8, u11, u12, u13, u14, u15, u16, u17, u18, u19, u20, u21, u22, u23, u24, u25, u26, u27, u31, u32, u33, u34, u35, u36, u37, u38, u39, u40, u41, u42, u43, u44, u45, u46, u47, u48, u49, u50, u51, u52, u53, u54, u55, u56, u57, u58, u59, u60, u61, rfl, hd, HA, HE, hB, hD, hsw⟩
        clear HA0
        by_cases hlt : d < g - 1
        · have hlti : (d : Int) < ((g - 1 : Nat) : Int) := by omega
          have hd0 : (0 : Int) ≤ d := by omega
          have hdls : d + 1 < ls.length := by omega
          obtain ⟨r, hr⟩ : ∃ r, ls[d + 1]? = some r := ⟨_, List.getElem?_eq_getElem hdls⟩
          obtain ⟨rd, hrd⟩ : ∃ rd, ls[d]? = some rd := ⟨_, List.getElem?_eq_getElem (show d < ls.length by omega)⟩
          obtain ⟨hrl, hrb⟩ := HLV.out _ _ hr
          obtain ⟨hdl, hdb⟩ := HLV.out _ _ hrd
          have HRB := Lib.hid hrb
          have HRD := Lib.hid hdb
          obtain ⟨-, -, -, cl, -⟩ := HFX.out W HE.out hB
          have cz := cl _ _ hr
          rw [Nat.add_comm] at cz
          have HRS := Lib.hid hr
          have HRDS := Lib.hid hrd
          clear cl hrb hdb hr hrd
          gi_wp2_with (refine ⟨trivial, ?_⟩; gi_at_call 103; refine (callsIn_wide.2 (membersOf_any _ _)).mono ?_; rintro e w' ⟨rfl, rfl⟩)
          obtain ⟨W1, hW1⟩ : ∃ W1, W1 = (W.alloc (.cells #[.int .i64 d] 3)).alloc (.cells #[.int .i64 r] 2) := ⟨_, rfl⟩
          refine at_world (w' := W1) ?_ hW1.symm
          have hs1 : W.heap.size + 1 < W1.heap.size := by rw [hW1]; simp
          have hbb : Below W.heap.size W W1 := by rw [hW1]; exact ((Below.refl _ _).alloc (Nat.le_refl _) _).alloc (by simp) _
          have hb1 : Boxed W1 W.heap.size 3 (.int .i64 d) := by rw [hW1]; exact (Boxed.new W 3 _).alloc _
          have hc1 : W1.cell? ⟨W.heap.size + 1, 0, none⟩ = some (.int .i64 r) := by rw [hW1]; have := World.cell?_alloc_new (w := W.alloc (.cells #[.int .i64 d] 3)) #[.int .i64 r] 2 0; rw [World.size_alloc] at this; rw [this]; rfl
          have hB1 : Below w.heap.size w W1 := hB.trans (hbb.mono hB.size)
          have hT1 : Tab W1 := HT.out.belowAll hB1
          have hAlt := HA.out.lt
          have HA1 : Hid (AW W1 wc.heap.size (wyD zs D x d)) := (hbb.block _ hAlt).trans HA.out
          have HE1 : Hid (∀ k, k < W0.heap.size → k ≠ wc.heap.size → W1.heap[k]? = W0.heap[k]?) := fun k h1 h2 => (hbb.block k (by omega)).trans (HE.out k h1 h2)
          have hD1 : DsOk W0.heap.size W1 Ds := hD.kept fun Dd hDd => hbb.block Dd (Array.getElem?_eq_some_iff.1 (hD.2 Dd hDd).2).1
          have HB1 := Lib.hid hb1
          clear hW1 HA HE hB hD cz hb1
          refine wpIn_rangeFunc_ownH rfl (by omega) (gf := 121) (lb := #[.pointer (some ⟨W.heap.size + 1, 0, none⟩)]) rfl trivial (enters_of Tryd.func121 (by kernel_rfl) rfl)
            (members_stops 8 (by omega) (W.heap.size + 1) w.heap.size r (by omega) W1 (by omega) hc1 hT1 hT0) belowK_t (belowK_b (by omega)) (Below.refl _ _) (fun _ => rfl)
            (fun pre W' => Hid (AW W' wc.heap.size (stW zs D x d pre.unattach)) ∧ Hid (∀ k, k < W1.heap.size → k ≠ wc.heap.size → W'.heap[k]? = W1.heap[k]?) ∧ Below w.heap.size w W' ∧ W1.heap.size ≤ W'.heap.size)
            (fun _ _ _ => False)
            ?hI (fun _ _ _ _ _ hs _ _ => hs) ?h0
            (fun v a' W' => ∃ (WB : Nat) (u5 u6 u7 u8 u12 u14 u15 u16 u17 u18 u19 u20 u21 u22 u23 u24 u25 u26 u27 u28 u29 u30 u31 u32 u33 u34 u35 u36 u37 u38 u39 u40 u41 u42 u43 u44 u45 u46 u47 u48 u49 u50 u51 u52 u53 u54 u55 u56 u57 u58 u59 u60 u61 : Value), W1.heap.size ≤ WB ∧ Boxed W' WB 2 (.int .i64 v.1) ∧ a' = { tmps := #[.agg #[.int .i64 zs.length, .slice (some ⟨b, off, none⟩) zs.length cap], .int .i64 x, .int .i64 y, .int .i64 g, .pointer (some ⟨w.heap.size, 0, none⟩), u5, u6, u7, u8, .pointer (some ⟨LB, 0, none⟩), .pointer (some ⟨wc.heap.size, 0, none⟩), .pointer (some ⟨W.heap.size, 0, none⟩), u12, .pointer (some ⟨WB, 0, none⟩), u14, u15, u16, u17, u18, u19, u20, u21, u22, u23, u24, u25, u26, u27, u28, u29, u30, u31, u32, u33, u34, u35, u36, u37, u38, u39, u40, u41, u42, u43, u44, u45, u46, u47, u48, u49, u50, u51, u52, u53, u54, u55, u56, u57, u58, u59, u60, u61], defers := [] })
            ?hAx ?assign ?body ?done ?stop
          case hI =>
            rintro pre X Y row ⟨h1, h2, h3, h4⟩ hg hr
            exact ⟨kept_rowP hg hr (by omega) h1.out, fun k hk hne => (hg.block k (by omega) (fun e => by have := (hr k e.symm).1; omega)).trans (h2.out k hk hne), h3.grown hg h3.size (fun k e => by have := (hr k e).1; omega), Nat.le_trans h4 hg.size⟩
          case h0 => exact ⟨HA1, fun _ _ _ => rfl, hB1, Nat.le_refl _⟩
          case hAx =>
            rintro v a' _ X Y row ⟨WB, u5, u6, u7, u8, u12, u14, u15, u16, u17, u18, u19, u20, u21, u22, u23, u24, u25, u26, u27, u28, u29, u30, u31, u32, u33, u34, u35, u36, u37, u38, u39, u40, u41, u42, u43, u44, u45, u46, u47, u48, u49, u50, u51, u52, u53, u54, u55, u56, u57, u58, u59, u60, u61, h1, h2, h3⟩ hg hr
            exact ⟨WB, u5, u6, u7, u8, u12, u14, u15, u16, u17, u18, u19, u20, u21, u22, u23, u24, u25, u26, u27, u28, u29, u30, u31, u32, u33, u34, u35, u36, u37, u38, u39, u40, u41, u42, u43, u44, u45, u46, u47, u48, u49, u50, u51, u52, u53, u54, u55, u56, u57, u58, u59, u60, u61, h1, boxed_own WB 2 (fun (_ : Unit) => Value.int .i64 v.1) () X Y row h2 hg (fun r e => (hr r e).2), h3⟩
          case assign =>
            rintro l pre v W' K ⟨h1, h2, h3, h4⟩ hK
            gi_wp2
            have hal : ∀ k, k < W'.heap.size → (W'.alloc (.cells #[.int .i64 v.1] 2)).heap[k]? = W'.heap[k]? := fun k hk => Below.heap_alloc W' _ k hk
            exact hK _ _ ((KeepsOthers.alloc _ _).from _) ((Below.refl _ W').alloc h3.size _) ⟨(hal _ h1.out.lt).trans h1.out, fun k hk hne => (hal k (by omega)).trans (h2.out k hk hne), h3.alloc h3.size _, by simp; omega⟩ ⟨W'.heap.size, _, _, _, _, _, _, _, _, _, _, _, _, _, _, _, _, _, _, _, _, _, _, _, _, _, _, _, _, _, _, _, _, _, _, _, _, _, _, _, _, _, _, _, _, _, _, _, _, _, _, _, _, _, h4, Boxed.new W' _ _, rfl⟩
          case body =>
            rintro l pre v a' W' hl ⟨rec, hrec⟩ ⟨h1, h2, h3, h4⟩ ⟨WB, u5, u6, u7, u8, u12, u14, u15, u16, u17, u18, u19, u20, u21, u22, u23, u24, u25, u26, u27, u28, u29, u30, u31, u32, u33, u34, u35, u36, u37, u38, u39, u40, u41, u42, u43, u44, u45, u46, u47, u48, u49, u50, u51, u52, u53, u54, u55, u56, u57, u58, u59, u60, u61, hWB, bW, rfl⟩ hlen
            clear hlen
            have hvr : D v.1 = ((d + 1 : Nat) : Int) := by
              have := (mem_iff.1 v.2).2
              rw [HRB.out] at this
              simpa using this
            have hvl : v.1 < zs.length := by
              have hbx := (mem_iff.1 v.2).2
              refine Nat.lt_of_not_le fun hle => ?_
              rw [Nat.testBit_lt_two_pow (Nat.lt_of_lt_of_le hrl (Nat.pow_le_pow_right (show 0 < 2 by decide) hle))] at hbx; cases hbx
            have HVR := Lib.hid hvr
            have HPRE : Hid (∀ u, u ∈ pre.unattach → D u = ((d + 1 : Nat) : Int)) := fun u hu => by
              obtain ⟨hm, -⟩ := List.mem_unattach.1 hu
              have := (mem_iff.1 hm).2
              rw [HRB.out] at this
              simpa using this
            have HVL := Lib.hid hvl
            have hSX : ∀ X : World, Below W'.heap.size W' X → X.cell? ⟨w.heap.size, 1, none⟩ = some (.slice (some ⟨b, off, none⟩) zs.length cap) ∧ X.cell? ⟨WB, 0, none⟩ = some (.int .i64 v.1) ∧ X.cell? ⟨b, off + v.1, none⟩ = some (.int .i64 (el zs v.1)) ∧ X.cell? ⟨LB, 0, none⟩ = some (.slice (some ⟨gl, 0, none⟩) ls.length capl) ∧ X.cell? ⟨W.heap.size, 0, none⟩ = some (.int .i64 d) ∧ X.cell? ⟨gl, d, none⟩ = some (.int .i64 rd) := fun X hX => by
              have e0 := hbb.size
              obtain ⟨-, z1, cL, cl, cr⟩ := HFX.out X (fun k k1 k2 => (hX.block k (by omega)).trans ((h2.out k (by omega) k2).trans (HE1.out k k1 k2))) (h3.trans (hX.mono h3.size))
              exact ⟨z1, Boxed.cell ((hX.block _ bW.lt).trans bW), cr _ hvl, cL, Boxed.cell ((hX.block _ (by omega)).trans ((h2.out _ (by omega) (by omega)).trans HB1.out)), cl _ _ HRDS.out⟩
            obtain ⟨rn, hrn⟩ : ∃ rn : Nat, el zs v.1 = (rn : Int) := ⟨(el zs v.1).toNat, by have := (HZ.out v.1 hvl).1; omega⟩
            have hrnl : rn < 2 ^ zs.length := by have := (HZ.out v.1 hvl).2; rw [hrn, Int.toNat_natCast] at this; exact this
            rw [hrn] at hSX
            have HSX := Lib.hid hSX
            have hand := and_i64 rn rd (by omega) (by omega)
            obtain ⟨z, hz⟩ : ∃ z : Nat, z = rn &&& rd := ⟨_, rfl⟩
            rw [← hz] at hand
            have hzl : z < 2 ^ 62 := by rw [hz]; exact Nat.lt_of_le_of_lt Nat.and_le_left (by omega)
            have HZF : Hid (mem z = frL zs D d zs.length v.1) := mem_frL h62 (fun u hu => by
              rw [hz, Nat.testBit_and, HRD.out, Bool.and_comm]
              congr 1
              rw [HSY.out u v.1 hu hvl]
              unfold bt
              rw [hrn, Int.toNat_natCast]) (fun u hu => by
              rw [hz, Nat.testBit_and, Nat.testBit_lt_two_pow (Nat.lt_of_lt_of_le hdl (Nat.pow_le_pow_right (show 0 < 2 by decide) hu))]; simp)
            obtain ⟨s1, s2, s3, s4, s5, s6⟩ := hSX W' (Below.refl _ _)
            have hv0 : (0 : Int) ≤ v.1 := by omega
            have hv1 : (v.1 : Int) < zs.length := by omega
            have hdi : (d : Int) < ls.length := by omega
            have hmx : Tryd.prog.follows Departure.mixedOrders = true := mixed
            have hwW : w.heap.size ≤ W'.heap.size := h3.size
            clear hz hrn hSX
            gi_wp2
            rename_i hK0
            have HKK := Lib.hid hK0
            clear hK0
            refine region_round (fun w' => w'.cell? ⟨w.heap.size, 1, none⟩ = some (.slice (some ⟨b, off, none⟩) zs.length cap) ∧ w'.cell? ⟨WB, 0, none⟩ = some (.int .i64 v.1) ∧ w'.cell? ⟨b, off + v.1, none⟩ = some (.int .i64 rn) ∧ w'.cell? ⟨LB, 0, none⟩ = some (.slice (some ⟨gl, 0, none⟩) ls.length capl) ∧ w'.cell? ⟨W.heap.size, 0, none⟩ = some (.int .i64 d) ∧ w'.cell? ⟨gl, d, none⟩ = some (.int .i64 rd)) hmx (by kernel_rfl) ⟨s1, s2, s3, s4, s5, s6⟩ (fun hHeld => ?_)
            show wpAnyH _ _ _ _ _ 11 (Array.replicate 11 false) _ _
            refine wpAnyH_take (i := 0) (v := .pointer (some ⟨w.heap.size, 1, none⟩)) rfl (by kernel_rfl) (by kernel_rfl) (by kernel_rfl) (fun _ _ _ h => h) (Or.inl ⟨by rfl, fun Wt hSw => by go_split_ands; go_simp⟩) (by assumption) ?_
            simp only [List.getElem_toArray, List.getElem_cons_zero, Act.put, List.setIfInBounds_toArray, List.set_cons_zero, List.set_cons_succ]
            refine wpAnyH_take (i := 1) (v := .slice (some ⟨b, off, none⟩) zs.length cap) rfl (by kernel_rfl) (by kernel_rfl) (by kernel_rfl) (fun _ _ _ h => h) (Or.inl ⟨by rfl, fun Wt hSw => by go_split_ands; go_simp⟩) (by assumption) ?_
            simp only [List.getElem_toArray, List.getElem_cons_zero, List.getElem_cons_succ, Act.put, List.setIfInBounds_toArray, List.set_cons_zero, List.set_cons_succ]
            refine wpAnyH_take (i := 2) (v := .int .i64 v.1) rfl (by kernel_rfl) (by kernel_rfl) (by kernel_rfl) (fun _ _ _ h => h) (Or.inl ⟨by rfl, fun Wt hSw => by go_split_ands; go_simp⟩) (by assumption) ?_
            simp only [List.getElem_toArray, List.getElem_cons_zero, List.getElem_cons_succ, Act.put, List.setIfInBounds_toArray, List.set_cons_zero, List.set_cons_succ]
            refine wpAnyH_take (i := 3) (v := .pointer (some ⟨b, off + v.1, none⟩)) rfl (by kernel_rfl) (by kernel_rfl) (by kernel_rfl) (fun _ _ _ h => h) (Or.inl ⟨by rfl, fun Wt hSw => by go_split_ands; go_simp⟩) (by assumption) ?_
            simp only [List.getElem_toArray, List.getElem_cons_zero, List.getElem_cons_succ, Act.put, List.setIfInBounds_toArray, List.set_cons_zero, List.set_cons_succ]
            refine wpAnyH_take (i := 4) (v := .int .i64 rn) rfl (by kernel_rfl) (by kernel_rfl) (by kernel_rfl) (fun _ _ _ h => h) (Or.inl ⟨by rfl, fun Wt hSw => by go_split_ands; go_simp⟩) (by assumption) ?_
            simp only [List.getElem_toArray, List.getElem_cons_zero, List.getElem_cons_succ, Act.put, List.setIfInBounds_toArray, List.set_cons_zero, List.set_cons_succ]
            refine wpAnyH_take (i := 5) (v := .slice (some ⟨gl, 0, none⟩) ls.length capl) rfl (by kernel_rfl) (by kernel_rfl) (by kernel_rfl) (fun _ _ _ h => h) (Or.inl ⟨by rfl, fun Wt hSw => by go_split_ands; go_simp⟩) (by assumption) ?_
            simp only [List.getElem_toArray, List.getElem_cons_zero, List.getElem_cons_succ, Act.put, List.setIfInBounds_toArray, List.set_cons_zero, List.set_cons_succ]
            refine wpAnyH_take (i := 6) (v := .int .i64 d) rfl (by kernel_rfl) (by kernel_rfl) (by kernel_rfl) (fun _ _ _ h => h) (Or.inl ⟨by rfl, fun Wt hSw => by go_split_ands; go_simp⟩) (by assumption) ?_
            simp only [List.getElem_toArray, List.getElem_cons_zero, List.getElem_cons_succ, Act.put, List.setIfInBounds_toArray, List.set_cons_zero, List.set_cons_succ]
            refine wpAnyH_take (i := 7) (v := .pointer (some ⟨gl, d, none⟩)) rfl (by kernel_rfl) (by kernel_rfl) (by kernel_rfl) (fun _ _ _ h => h) (Or.inl ⟨by rfl, fun Wt hSw => by go_split_ands; go_simp⟩) (by assumption) ?_
            simp only [List.getElem_toArray, List.getElem_cons_zero, List.getElem_cons_succ, Act.put, List.setIfInBounds_toArray, List.set_cons_zero, List.set_cons_succ]
            refine wpAnyH_take (i := 8) (v := .int .i64 rd) rfl (by kernel_rfl) (by kernel_rfl) (by kernel_rfl) (fun _ _ _ h => h) (Or.inl ⟨by rfl, fun Wt hSw => by go_split_ands; go_simp⟩) (by assumption) ?_
            simp only [List.getElem_toArray, List.getElem_cons_zero, List.getElem_cons_succ, Act.put, List.setIfInBounds_toArray, List.set_cons_zero, List.set_cons_succ]
            refine wpAnyH_take (i := 9) (v := .int .i64 z) rfl (by kernel_rfl) (by kernel_rfl) (by kernel_rfl) (fun _ _ _ h => h) (Or.inl ⟨by rfl, fun Wt hSw => by go_split_ands; go_simp⟩) (by assumption) ?_
            simp only [List.getElem_toArray, List.getElem_cons_zero, List.getElem_cons_succ, Act.put, List.setIfInBounds_toArray, List.set_cons_zero, List.set_cons_succ]
            refine wpAnyH_ready (rs := [10]) (by kernel_rfl) (by simp) ?_
            refine AllReadyH.cons rfl (fun K hK => ?_) AllReadyH.nil
            go_simp
            refine (membersOf_any _ _).mono ?_
            rintro e w6 ⟨rfl, rfl⟩
            have B6 : Below W'.heap.size W' (W'.drew.alloc (.cells #[.int .i64 z] 2)) := ((Below.refl _ _).drew).alloc (by simp) _
            obtain ⟨s1, s2, s3, s4, s5, s6⟩ := HSX.out _ B6
            refine hK.out _ _ ⟨s1, s2, s3, s4, s5, s6⟩ (fun hHeld => ?_)
            clear hK K
            refine wpAnyH_done (by kernel_rfl) ?_ _
            refine HKK.out _ _ ?_
            clear HKK
            obtain ⟨Z, hZ⟩ : ∃ Z, Z = W'.drew.alloc (.cells #[.int .i64 z] 2) := ⟨_, rfl⟩
            refine at_world (w' := Z) ?_ (by rw [hZ])
            have hsZ : W'.heap.size < Z.heap.size := by rw [hZ]; simp
            have hcZ : Z.cell? ⟨W'.heap.size, 0, none⟩ = some (.int .i64 z) := by rw [hZ]; have := World.cell?_alloc_new (w := W'.drew) #[.int .i64 z] 2 0; exact this
            rw [← hZ] at B6
            have hrecZ : Z.heap[l]? = some (.loop rec) := (B6.block l (Array.getElem?_eq_some_iff.1 hrec).1).trans hrec
            have hTZ : Tab Z := HT.out.belowAll (h3.trans (B6.mono h3.size))
            have bWZ : Boxed Z WB 2 (.int .i64 v.1) := (B6.block _ bW.lt).trans bW
            have HAZ : Hid (AW Z wc.heap.size (stW zs D x d pre.unattach)) := (B6.block _ h1.out.lt).trans h1.out
            have hABW : wc.heap.size < W'.heap.size := h1.out.lt
            clear hZ s1 s2 s3 s4 s5 s6 hHeld HSX
            gi_wp2
            refine wpIn_rangeFunc_ownN (l₀ := l) (r₀ := rec) rfl hrecZ (by omega) (gf := 121) (lb := #[.pointer (some ⟨W'.heap.size, 0, none⟩)]) rfl trivial (enters_of Tryd.func121 (by kernel_rfl) rfl)
              ((members_stops 6 (by omega) W'.heap.size w.heap.size z (by omega) Z hsZ hcZ hTZ hT0).inRound l) belowK_t (belowK_b (by omega)) (Below.refl _ _) (fun _ => rfl)
              (fun pre' X => Hid (AW X wc.heap.size (fun i => if i = v.1 then sumW (wyV zs D x) (stW zs D x d pre.unattach v.1) pre'.unattach else stW zs D x d pre.unattach i)) ∧ Hid (∀ k, k < Z.heap.size → k ≠ wc.heap.size → X.heap[k]? = Z.heap[k]?) ∧ Below w.heap.size W' X ∧ KeepsFrom W1.heap.size W' X ∧ Z.heap.size ≤ X.heap.size)
              (fun _ _ _ => False) ?hI2 (fun _ _ _ _ _ hs _ _ => hs) ?h02
              (fun v2 a' _ => ∃ (u5 u6 u7 u8 u11 u12 u15 u16 u17 u18 u19 u20 u21 u22 u23 u24 u25 u26 u27 u28 u29 u30 u31 u32 u33 u34 u35 u36 u37 u38 u39 u40 u41 u42 u43 u44 u45 u46 u47 u48 u49 u50 u51 u52 u53 u54 u55 u56 u57 u58 u59 u60 u61 : Value), a' = { tmps := #[.agg #[.int .i64 zs.length, .slice (some ⟨b, off, none⟩) zs.length cap], .int .i64 x, .int .i64 y, .int .i64 g, .pointer (some ⟨w.heap.size, 0, none⟩), u5, u6, u7, u8, .pointer (some ⟨LB, 0, none⟩), .pointer (some ⟨wc.heap.size, 0, none⟩), u11, u12, .pointer (some ⟨WB, 0, none⟩), .int .i64 v2.1, u15, u16, u17, u18, u19, u20, u21, u22, u23, u24, u25, u26, u27, u28, u29, u30, u31, u32, u33, u34, u35, u36, u37, u38, u39, u40, u41, u42, u43, u44, u45, u46, u47, u48, u49, u50, u51, u52, u53, u54, u55, u56, u57, u58, u59, u60, u61], defers := [] })
              (fun _ _ _ _ _ _ hs _ _ => hs) ?assign2 ?body2 ?done2 ?stop2
            case hI2 =>
              rintro pre' X Y row ⟨q1, q2, q3, q4, q5⟩ hg hr
              exact ⟨kept_rowP hg hr (by omega) q1.out, fun k hk hne => (hg.block k (by omega) (fun e => by have := (hr k e.symm).1; omega)).trans (q2.out k hk hne), q3.grown hg (by omega) (fun k e => by have := (hr k e).1; omega), ownFrom_keepsFrom (by omega) () X Y row q4 hg hr, Nat.le_trans q5 hg.size⟩
            case h02 =>
              exact ⟨HAZ.out.congr (fun i _ => by
                by_cases e : i = v.1
                · rw [if_pos e, e]; rfl
                · rw [if_neg e]), fun _ _ _ => rfl, B6.mono hwW, ⟨B6.size, fun k o _ ho _ => (B6.block k (Array.getElem?_eq_some_iff.1 ho).1).trans ho⟩, Nat.le_refl _⟩
            case assign2 =>
              rintro l2 pre' v2 X K hI hK
              gi_wp2
              exact hK _ _ (KeepsFrom.refl _ _) (Below.refl _ _) hI ⟨_, _, _, _, _, _, _, _, _, _, _, _, _, _, _, _, _, _, _, _, _, _, _, _, _, _, _, _, _, _, _, _, _, _, _, _, _, _, _, _, _, _, _, _, _, _, _, _, _, _, _, _, _, rfl⟩
            case body2 =>
              rintro l2 pre' v2 a' X hl2 _ ⟨q1, q2, q3, q4, q5⟩ ⟨u5, u6, u7, u8, u11, u12, u15, u16, u17, u18, u19, u20, u21, u22, u23, u24, u25, u26, u27, u28, u29, u30, u31, u32, u33, u34, u35, u36, u37, u38, u39, u40, u41, u42, u43, u44, u45, u46, u47, u48, u49, u50, u51, u52, u53, u54, u55, u56, u57, u58, u59, u60, u61, rfl⟩ hlen
              clear hlen
              have hm2 : v2.1 ∈ frL zs D d zs.length v.1 := by rw [← HZF.out]; exact v2.2
              have hf2 := List.mem_filter.1 hm2
              have hl2n : v2.1 < zs.length := List.mem_range.1 hf2.1
              have hd2 : D v2.1 = (d : Int) := by
                have := hf2.2
                rw [Bool.and_eq_true, beq_iff_eq] at this
                exact this.1
              have hne2 : v2.1 ≠ v.1 := fun e => by rw [e, HVR.out] at hd2; omega
              have hst2 : stW zs D x d pre.unattach v2.1 = wyV zs D x v2.1 := by
                rw [stW_low (fun u hu e => by have := HPRE.out u hu; rw [e, hd2] at this; omega), wyD_at hd2]
              have cw2 : X.cell? ⟨WB, 0, none⟩ = some (.int .i64 v.1) := Boxed.cell ((q2.out _ bWZ.lt (by omega)).trans bWZ)
              have ca1 := q1.out.cell (j := v.1) (by omega)
              have ca2 := q1.out.cell (j := v2.1) (by omega)
              rw [if_pos rfl] at ca1
              rw [if_neg hne2, hst2] at ca2
              have cf1 := q1.out.frozen v.1
              have HSN := Lib.hid (sumW_snoc (wyV zs D x) (stW zs D x d pre.unattach v.1) pre'.unattach v2.1)
              have HAS : Hid (∀ n, AW (X.setCell ⟨wc.heap.size, v.1, none⟩ (.int .i64 n)) wc.heap.size (fun i => if i = v.1 then n else if i = v.1 then sumW (wyV zs D x) (stW zs D x d pre.unattach v.1) pre'.unattach else stW zs D x d pre.unattach i)) := fun n => q1.out.set (by omega) n
              obtain ⟨sv, hsv⟩ : ∃ sv, IntKind.i64.wrap (sumW (wyV zs D x) (stW zs D x d pre.unattach v.1) pre'.unattach + wyV zs D x v2.1) = sv := ⟨_, rfl⟩
              rw [hsv] at HSN
              have HAL : Hid (AW (X.setCell ⟨wc.heap.size, v.1, none⟩ (.int .i64 sv)) wc.heap.size (fun i => if i = v.1 then sumW (wyV zs D x) (stW zs D x d pre.unattach v.1) (pre' ++ [v2]).unattach else stW zs D x d pre.unattach i)) := (HAS.out sv).congr fun i _ => by
                rw [List.unattach_append, show List.unattach [v2] = [v2.1] from rfl]
                by_cases e : i = v.1
                · rw [if_pos e, if_pos e, HSN.out]
                · rw [if_neg e, if_neg e, if_neg e]
              clear HAS HSN hm2 hf2 hst2
              generalize hA9 : sumW (wyV zs D x) (stW zs D x d pre.unattach v.1) pre'.unattach = A at *
              generalize hC9 : wyV zs D x v2.1 = C at *
              clear hA9 hC9
              have hv20 : (0 : Int) ≤ v2.1 := by omega
              have hv262 : (v2.1 : Int) < 62 := by omega
              have hv62 : (v.1 : Int) < 62 := by omega
              have HHA := Lib.hid hne2
              clear hd2
              gi_wp2
              gi_region_with_o (fail)
              all_goals
                refine ⟨((KeepsOthers.setCell _ _ _).trans (KeepsOthers.drew _)).from _, ((Below.refl _ _).setCell (p := ⟨wc.heap.size, v.1, none⟩) (by simp; omega) _).drew, HAL.out, fun k hk hne => ?_, (q3.setCell (p := ⟨wc.heap.size, v.1, none⟩) (by simp; omega) _).drew, q4.trans (((KeepsOthers.setCell _ _ _).trans (KeepsOthers.drew _)).from _), by simpa using q5⟩
                exact (Below.heap_setCell _ _ _ k (by simpa using hne)).trans (q2.out k hk hne)
            case done2 =>
              rintro ys X rfl ⟨q1, q2, q3, q4, q5⟩
              gi_wp2
              have e5 := B6.size
              refine ⟨q4, q3, q1.out.congr (fun i _ => ?_), fun k hk hne => (q2.out k (by omega) hne).trans ((B6.block k (by omega)).trans (h2.out k hk hne)), h3.trans q3, by omega⟩
              rw [show (memL z).unattach = mem z from memL_val z, HZF.out, List.unattach_append, show List.unattach [v] = [v.1] from rfl]
              by_cases e : i = v.1
              · rw [if_pos e, e, stW_same]
              · rw [if_neg e, stW_other e]
            case stop2 =>
              rintro c pre' X _ h
              exact h.elim
          case done =>
            rintro D' ys W2 hDD rfl ⟨h1, h2, h3, h4⟩ hK
            have HA2 : Hid (AW W2 wc.heap.size (wyD zs D x (d + 1))) := h1.out.congr (fun i hi => by
              rw [show (memL r).unattach = mem r from memL_val r]; exact stW_all HRB.out hi)
            gi_wp2
            refine ⟨⟨d + 1, D' :: Ds, _, _, _, _, _, _, _, _, _, _, _, _, _, _, _, _, _, _, _, _, _, _, _, _, _, _, _, _, _, _, _, _, _, _, _, _, _, _, _, _, _, _, _, _, _, _, _, _, _, _, _, _, rfl, by omega, HA2, fun k k1 k2 => (h2.out k (by have := hbb.size; omega) k2).trans (HE1.out k k1 k2), h3, ?_, by have := hbb.size; omega⟩, ?_⟩
            · refine ⟨List.nodup_cons.2 ⟨fun hDD' => ?_, hD1.1⟩, fun E hE => ?_⟩
              · have := (Array.getElem?_eq_some_iff.1 (hD1.2 D' hDD').2).1; omega
              · rcases List.mem_cons.1 hE with rfl | hE
                · exact ⟨by have := hbb.size; omega, hK⟩
                · exact ⟨(hD1.2 E hE).1, (h2.out E (Array.getElem?_eq_some_iff.1 (hD1.2 E hE).2).1 (by have := (hD1.2 E hE).1; omega)).trans (hD1.2 E hE).2⟩
            · simp [intOf]; omega
          case stop =>
            rintro D' c pre W' _ _ h _
            exact h.elim
        · obtain rfl : d = g - 1 := by omega
          have hlti : ¬ ((g - 1 : Nat) : Int) < ((g - 1 : Nat) : Int) := by omega
          have cy := HA.out.cell (j := y) (by omega)
          rw [HCT.out] at cy
          have hy62 : (y : Int) < 62 := by omega
          gi_wp2_with fail
          refine HKE.out _ _ ?_
          gi_wp2_with fail
          refine leaves_marks (H := W0.heap.size) Ds _ hD fun W' hss hb' => ?_
          exact ⟨_, results_tmp rfl _ _ _, rfl, hB.trans (hb'.mono (by have := HEW.out.size; omega))⟩
end Go.Proofs.YtabkfihhfkmioaaDoor
