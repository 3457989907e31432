/-
  impl.PartsOf: the walk. (A tied seat of graphs.)
-/
import Derived.Test.YtbpcdgfcdahnlaaDoorQa
import Derived.Test.YtbpcdgfcdahnlaaDoorRr
namespace Go.Proofs.YtbpcdgfcdahnlaaDoor
set_option maxRecDepth 100000
set_option maxRecDepth 100000
open Go.RowKit Go.Shelf

attribute [local go_sem] Oper.semAt_some

theorem kept_rowP {W W' : World} {row : Option Nat} {B k : Nat} {o : Obj} (hg : W.grownBy W' row) (hr : ∀ r, row = some r → B ≤ r ∧ ∃ o : Obj, W.heap[r]? = some o ∧ o.isCells = false) (hk : k < B) (h : W.heap[k]? = some o) : W'.heap[k]? = some o :=
  (hg.block k (Array.getElem?_eq_some_iff.1 h).1 (fun e => by have := (hr k e.symm).1; omega)).trans h
/-- A block of one cell. -/
def Bx (W : World) (k : Nat) (t : TypeId) (v : Value) : Prop := W.heap[k]? = some (.cells #[v] t (0, 0))
theorem Bx.cell {W : World} {k : Nat} {t : TypeId} {v : Value} (h : Bx W k t v) : W.cell? ⟨k, 0, none⟩ = some v := by rw [cell_of_row W k 0 _ _ _ h]; rfl
theorem Bx.frozen {W : World} {k : Nat} {t : TypeId} {v : Value} (h : Bx W k t v) : W.frozen? ⟨k, 0, none⟩ = false := frozen_of_row W k 0 _ _ h
theorem Bx.lt {W : World} {k : Nat} {t : TypeId} {v : Value} (h : Bx W k t v) : k < W.heap.size := (Array.getElem?_eq_some_iff.1 h).1
theorem Bx.set {W : World} {k : Nat} {t : TypeId} {v : Value} (h : Bx W k t v) (x : Value) : Bx (W.setCell ⟨k, 0, none⟩ x) k t x := by
  unfold Bx at *
  rw [heap_setCell_same W k 0 _ _ _ h]; rfl
theorem grown_setP (W : World) (k i : Nat) (x : Value) : W.grownBy (W.setCell ⟨k, i, none⟩ x) (some k) := grown_set ⟨rfl, rfl, rfl, Nat.le_refl _, fun _ _ _ => rfl⟩ _ i x
theorem TL.low {w w' : World} {B : Nat} {v : Value} {Ts : List (List Int)} {r : Nat} (h : TL w B v Ts) (hg : w.grownBy w' (some r)) (hr : r < B) : TL w' B v Ts := by
  obtain ⟨cs, ⟨h1, h2, h3⟩, h4⟩ := h
  have far : ∀ {t : TypeId} {s n : Nat} {x : Value} {xs : List Value}, w.ownsRow B t s x n xs → (x.ownBlock = none ∨ x.ownBlock ≠ some r) := fun {t s n x xs} hx => by
    cases e : x.ownBlock with
    | none => exact .inl rfl
    | some k => exact .inr fun e2 => by cases e2; have := (World.ownsRow.lt hx _ e).1; omega
  refine ⟨cs, ⟨World.ownsRow.kept h1 hg (far h1), h2, fun i hi => ?_⟩, h4⟩
  obtain ⟨u, a, b, c⟩ := h3 i hi
  exact ⟨u, a, b.kept hg (far b), c⟩
theorem TL.base {w : World} {B B' : Nat} {v : Value} {Ts : List (List Int)} (h : TL w B v Ts) (hb : B' ≤ B) : TL w B' v Ts := by
  obtain ⟨cs, ⟨h1, h2, h3⟩, h4⟩ := h
  refine ⟨cs, ⟨⟨h1.1, h1.2.imp id fun ⟨g, cap, cur, e, hB, r⟩ => ⟨g, cap, cur, e, Nat.le_trans hb hB, r⟩⟩, h2, fun i hi => ?_⟩, h4⟩
  obtain ⟨u, a, b, c⟩ := h3 i hi
  exact ⟨u, a, b.base hb, c⟩
theorem TL.nil (w : World) (B : Nat) : TL w B (.slice none 0 0) [] := ⟨[], ⟨World.ownsRow_nil w B _ 1, rfl, fun i h => by simp at h⟩, fun i j x y b _ hx => by simp at hx⟩
theorem mem_len64P (x : Nat) : (mem x).length ≤ 64 := by unfold mem; exact Nat.le_trans (List.length_filter_le _ _) (by simp)

def LSRes (B : Nat) (Ts : List (List Int)) (c : Int) (e : Ending) (w' : World) : Prop := ∃ u, e = .returned (.tuple #[u, .int .i64 c]) ∧ TL w' B u Ts

set_option maxHeartbeats 6400000 in
theorem implPa_in (b off cap : Nat) (zs : List Int) (w : World) (hb : b < w.heap.size) (hc : Cells w b off zs) (hg : isG zs.length zs = true) (hT : Tab w) :
    CallsIn Fence.wide 5 Tryd.prog 27 #[.agg #[.int .i64 zs.length, .slice (some ⟨b, off, none⟩) zs.length cap]] w fun e w' => LSRes w.heap.size (PtL zs) 0 e w' ∧ Below w.heap.size w w' := by
  obtain ⟨g1, g2, g3, g4, -⟩ := isG_parts hg
  have h62 : zs.length ≤ 62 := by omega
  have hz : ∀ i, i < zs.length → (el zs i).toNat < 2 ^ zs.length := fun i hi => by
    have q0 := (isG_row_ok hg i hi).1
    have q1 := rowOk_le (rowsOk_at g4 hi)
    rw [← g3, Int.toNat_natCast] at q1
    have e : ((2 : Int) ^ zs.length) = ((2 ^ zs.length : Nat) : Int) := by simp
    rw [e] at q1
    omega
  obtain ⟨F, hF⟩ : ∃ F : Nat → Nat × Nat, ∀ v, v < zs.length → RD zs v (F v) := by
    refine ⟨fun v => if h : v < zs.length then Classical.choose (RD.ex h h62 hz) else (0, 0), fun v hv => ?_⟩
    simp only [dif_pos hv]
    exact Classical.choose_spec (RD.ex hv h62 hz)
  obtain ⟨p, hpn, hp⟩ := PN.ex h62 hz hF
  have hall := pts_all h62 hz hF hp
  have D0 : Below w.heap.size w (w.alloc (.cells #[.int .i64 zs.length, .slice (some ⟨b, off, none⟩) zs.length cap] 28)) := (Below.refl _ _).alloc (Nat.le_refl _) _
  have his := implIs_some zs.length b off cap zs _ (Nat.lt_of_lt_of_le hb D0.size) (hc.below D0 hb) (by omega) (hT.belowAll D0)
  rw [hg] at his
  have HG0 := Lib.hid (GBox.new (n := zs.length) (cap := cap) hb hc)
  have HG := Lib.hid hg; have HF := Lib.hid hF; have HPN := Lib.hid hp; have HALL := Lib.hid hall; have HZ := Lib.hid hz
  have HT := Lib.hid (hT.belowAll D0)
  have HT0 := Lib.hid hT
  have hTl := hT.lt
  have hp62 : 2 ^ zs.length ≤ 2 ^ 62 := Nat.pow_le_pow_right (by decide) h62
  obtain ⟨j0, hj, hy0, hy1, hy2⟩ := info_parts mkS_info
  have HJ := Lib.hid hj; have HJ0 := Lib.hid hy0; have HJ1 := Lib.hid hy1; have HJ2 := Lib.hid hy2
  clear hc hg hF hp hall hz hT hj hy0 hy1 hy2 g3 g4
  refine callsIn_of_wp_marks Tryd.func27 rfl trivial ?_ rfl
  simp only [Tryd.ntmps27, List.size_toArray, List.length_cons, List.length_nil, Nat.reduceAdd, Nat.reduceSub, Array.replicate_succ, Array.replicate_zero, List.push_toArray, List.append_toArray, List.nil_append, List.cons_append]
  gi_upto_region 3 with (refine ⟨trivial, ?_⟩; gi_at_call 54; refine (callsIn_wide.2 his).mono ?_; rintro e w1 ⟨rfl, hb1⟩)
  have G1 := Lib.hid (HG0.out.below (hb1.mono (by simp)))
  have D1 : Below w.heap.size w w1 := D0.trans (hb1.mono (by simp))
  have T1 := Lib.hid (HT.out.belowAll hb1)
  have s1 : w.heap.size + 1 ≤ w1.heap.size := by have := hb1.size; simpa using this
  clear his hb1 D0 HG0 HT
  gi_upto_region 4 with fail
  obtain ⟨Wb, hWb⟩ : ∃ Wb, Wb = w1.alloc (.cells #[.slice none 0 0] 37) := ⟨_, rfl⟩
  refine at_world (w' := Wb) ?_ (by rw [hWb])
  have hbb : Below w1.heap.size w1 Wb := by rw [hWb]; exact (Below.refl _ _).alloc (Nat.le_refl _) _
  have sb : Wb.heap.size = w1.heap.size + 1 := by rw [hWb]; simp
  have BXb : Hid (Bx Wb w1.heap.size 37 (.slice none 0 0)) := by show Bx _ _ _ _; rw [hWb]; exact World.alloc_heap_new w1 _
  have Gb := Lib.hid (G1.out.below (hbb.mono s1))
  have b0 := Gb.out.b0; have b1 := Gb.out.b1
  clear hWb
  gi_wp2_with (refine ⟨trivial, ?_⟩; gi_at_call 58; refine (callsIn_wide.2 (partsIn_any _ _ _)).mono ?_; rintro e w' ⟨rfl, rfl⟩)
  obtain ⟨Wm, hWm⟩ : ∃ Wm, Wm = Wb.alloc (.cells #[.int .i64 zs.length, .slice (some ⟨b, off, none⟩) zs.length cap] 28) := ⟨_, rfl⟩
  refine at_world (w' := Wm) ?_ (by rw [hWm])
  have hbm : Below w1.heap.size w1 Wm := by rw [hWm]; exact hbb.alloc (by omega) _
  have sm : Wm.heap.size = w1.heap.size + 2 := by rw [hWm]; simp [sb]
  have hbbm : Below Wb.heap.size Wb Wm := by rw [hWm]; exact (Below.refl _ _).alloc (Nat.le_refl _) _
  have BXm : Hid (Bx Wm w1.heap.size 37 (.slice none 0 0)) := (hbbm.block _ BXb.out.lt).trans BXb.out
  have haM : Wm.heap[w1.heap.size + 1]? = some (.cells #[.int .i64 zs.length, .slice (some ⟨b, off, none⟩) zs.length cap] 28 (0, 0)) := by rw [hWm, ← sb]; exact World.alloc_heap_new Wb _
  have hEm : Below w.heap.size w Wm := D1.trans (hbm.mono (by omega))
  have hcM : Cells Wm b off zs := G1.out.cells.below hbm (by omega)
  have hst := parts_stops 4 (by omega) (w1.heap.size + 1) w1.heap.size b off cap zs F p HG.out HF.out HPN.out Wm haM (by omega) hcM (T1.out.belowAll hbm) (by omega) (by omega)
  obtain ⟨f1, hf1⟩ : ∃ f1 : Fin p → Nat, f1 = fun x => (F (lo (lfN zs.length F x.1))).1 := ⟨_, rfl⟩
  obtain ⟨f2, hf2⟩ : ∃ f2 : Fin p → Nat, f2 = fun x => (F (lo (lfN zs.length F x.1))).2 := ⟨_, rfl⟩
  rw [show (fun x : Fin p => (#[.int .i64 ((F (lo (lfN zs.length F x.1))).1 : Nat), .int .i64 ((F (lo (lfN zs.length F x.1))).2 : Nat)] : Array Value)) = fun x => #[.int .i64 (f1 x), .int .i64 (f2 x)] by rw [hf1, hf2]] at hst
  have HPT : Hid (∀ x : Fin p, ptF F zs.length x.1 = nI (mem (f1 x ||| f2 x))) := fun x => by rw [hf1, hf2]; rfl
  have HFB : Hid (∀ x : Fin p, f1 x < 2 ^ 62 ∧ f2 x < 2 ^ 62 ∧ f1 x ||| f2 x ≠ 0) := fun x => by
    have hne := HPN.out.2 x.1 x.2
    have hlo := lo_lt h62 hne
    have hi := (HF.out _ hlo).inv hlo h62 HZ.out
    rw [hf1, hf2]
    refine ⟨Nat.lt_of_lt_of_le hi.elt hp62, Nat.lt_of_lt_of_le hi.olt hp62, fun e => ?_⟩
    have h2 := congrArg (fun y : Nat => y.testBit (lo (lfN zs.length F x.1))) e
    simp only [Nat.testBit_or, hi.at0] at h2
    simp at h2
  clear hWm b0 b1 hf1 hf2 hcM haM BXb Gb hbbm
  refine wpIn_rangeFunc_ownG (α := Fin p) rfl (by omega) (gf := 89) (lb := #[.pointer (some ⟨w1.heap.size + 1, 0, none⟩)]) rfl trivial (enters_of Tryd.func89 (by kernel_rfl) rfl)
    hst KpG.tr (KpG.put (by omega) (by omega)) (Below.refl _ _) (fun _ => rfl)
    (fun pre W' => ∃ u, Hid (Bx W' w1.heap.size 37 u) ∧ Hid (TL W' (w1.heap.size + 2) u (pre.map fun x : Fin p => ptF F zs.length x.1)) ∧ Below w.heap.size w W' ∧ Wm.heap.size ≤ W'.heap.size)
    (fun _ _ _ => False)
    ?hI (fun _ _ _ _ _ hs _ _ => hs) ?h0c (fun x => { tmps := #[.agg #[.int .i64 zs.length, .slice (some ⟨b, off, none⟩) zs.length cap], .pointer (some ⟨w.heap.size, 0, none⟩), .slice none 0 0, .int .i64 0, .pointer (some ⟨w1.heap.size, 0, none⟩), .int .i64 (f1 x), .int .i64 (f2 x), .agg #[.int .i64 zs.length, .slice (some ⟨b, off, none⟩) zs.length cap], .bool true, .bool false, .agg #[.int .i64 zs.length, .slice (some ⟨b, off, none⟩) zs.length cap], .func (.func 89) #[] #[.pointer (some ⟨w1.heap.size + 1, 0, none⟩)], .int .i64 (f1 x), .int .i64 (f2 x), undef, undef, undef, undef, undef, undef, undef, undef], defers := [] }) ?assign ?body ?done ?stop
  case hI =>
    rintro pre A B row ⟨u, h1, h2, h3, h4⟩ hg hr
    exact ⟨u, kept_rowP hg hr (by omega) h1.out, h2.out.kept hg (fun r e => (hr r e).2), h3.grown hg h3.size (fun k e => by have := (hr k e).1; omega), Nat.le_trans h4 hg.size⟩
  case h0c => exact ⟨_, BXm, TL.nil _ _, hEm, Nat.le_refl _⟩
  case assign =>
    intro l y W K hK
    gi_wp2
    exact hK
  case body =>
    rintro l pre x W5 ⟨u, hbx, htl, hB5, hs5⟩ hlen
    have cv := hbx.out.cell
    have hBl := hbx.out.lt
    have hB5d : Below w.heap.size w W5.drew := hB5.drew
    have HTd : Hid (Tab W5.drew) := HT0.out.belowAll hB5d
    obtain ⟨fb1, fb2, fne⟩ := HFB.out x
    obtain ⟨L, hL⟩ : ∃ L, L = nI (mem (f1 x ||| f2 x)) := ⟨_, rfl⟩
    obtain ⟨Lp, hLp⟩ : ∃ Lp, Lp = pre.map fun x : Fin p => ptF F zs.length x.1 := ⟨_, rfl⟩
    have hmap : List.map (fun x : Fin p => ptF F zs.length x.1) (pre ++ [x]) = Lp ++ [L] := by rw [List.map_append, hLp, hL, ← HPT.out x]; rfl
    have HMAP := Lib.hid hmap
    have hLpl : Lp.length ≤ 62 := by rw [hLp, List.length_map]; omega
    have hLl : L.length ≤ 64 := by rw [hL, nI_length]; exact mem_len64P _
    obtain ⟨v1, hv1⟩ : ∃ v1, v1 = f1 x := ⟨_, rfl⟩
    obtain ⟨v2, hv2⟩ : ∃ v2, v2 = f2 x := ⟨_, rfl⟩
    rw [← hv1] at fb1 fne hL ⊢
    rw [← hv2] at fb2 fne hL ⊢
    rw [← hLp] at htl
    have hlt2 : v1 ||| v2 < 2 ^ 62 := Nat.or_lt_two_pow fb1 fb2
    have HLO := Lib.hid (listOfS_any (v1 ||| v2) (by omega) fne)
    rw [← hL] at HLO
    have hor := or_i64 v1 v2 (by omega) (by omega)
    have hLne : L ≠ [] := fun e => by
      obtain ⟨r, hr⟩ := lo_mem fne (show v1 ||| v2 < 2 ^ 64 by omega)
      rw [hL, hr] at e; simp [nI] at e
    have HLNE := Lib.hid hLne
    obtain ⟨cs, htc⟩ := htl.out
    have HTC := Lib.hid htc
    have HEND : Hid (∀ (w6 : World) (fg fc : Nat), W5.drew.heap.size ≤ fg → fg < w6.heap.size → Own w6 W5.drew.heap.size (.slice (some ⟨fg, 0, none⟩) L.length fc) L → Below W5.heap.size W5 w6 → ∀ (gg cp : Nat) (w8 : World),
        w8.ownsRow (w1.heap.size + 2) 22 1 (.slice (some ⟨gg, 0, none⟩) (Lp.length + 1) cp) (Lp.length + 1) (cs ++ [.slice (some ⟨fg, 0, none⟩) L.length fc]) → (w6.alloc (.cells #[.slice (some ⟨fg, 0, none⟩) L.length fc] 22)).grownBy w8 u.ownBlock → (u.ownBlock = some gg ∨ gg = w6.heap.size + 1) → gg < w8.heap.size →
        Bx w8 w1.heap.size 37 u ∧ KeepsFrom Wm.heap.size W5 (w8.setCell ⟨w1.heap.size, 0, none⟩ (.slice (some ⟨gg, 0, none⟩) (Lp.length + 1) cp)) ∧ KpG w1.heap.size (w1.heap.size + 1) W5 (w8.setCell ⟨w1.heap.size, 0, none⟩ (.slice (some ⟨gg, 0, none⟩) (Lp.length + 1) cp)) ∧
        ∃ u', Hid (Bx (w8.setCell ⟨w1.heap.size, 0, none⟩ (.slice (some ⟨gg, 0, none⟩) (Lp.length + 1) cp)) w1.heap.size 37 u') ∧ Hid (TL (w8.setCell ⟨w1.heap.size, 0, none⟩ (.slice (some ⟨gg, 0, none⟩) (Lp.length + 1) cp)) (w1.heap.size + 2) u' ((pre ++ [x]).map fun x : Fin p => ptF F zs.length x.1)) ∧ Below w.heap.size w (w8.setCell ⟨w1.heap.size, 0, none⟩ (.slice (some ⟨gg, 0, none⟩) (Lp.length + 1) cp)) ∧ Wm.heap.size ≤ (w8.setCell ⟨w1.heap.size, 0, none⟩ (.slice (some ⟨gg, 0, none⟩) (Lp.length + 1) cp)).heap.size) := by
      intro w6 fg fc h60 h61 hO6 B6 gg cp w8 hown8 hgr8 hat8 hlt8
      have s6 := B6.size
      have h60' : W5.heap.size ≤ fg := h60
      have B7 : Below W5.heap.size W5 (w6.alloc (.cells #[.slice (some ⟨fg, 0, none⟩) L.length fc] 22)) := B6.alloc s6 _
      have s7 := B7.size
      have s8 := hgr8.size
      have hub : ∀ k, u.ownBlock = some k → w1.heap.size + 2 ≤ k ∧ k < W5.heap.size := fun k e => World.ownsRow.lt HTC.out.1.1 k e
      have hbx7 : Bx (w6.alloc (.cells #[.slice (some ⟨fg, 0, none⟩) L.length fc] 22)) w1.heap.size 37 u := (B7.block _ hBl).trans hbx.out
      have hbx8 : Bx w8 w1.heap.size 37 u := (hgr8.block _ (by omega) (fun e => by have := (hub _ e.symm).1; omega)).trans hbx7
      have hT7 := HTC.out.below B7
      have hO7 : Own (w6.alloc (.cells #[.slice (some ⟨fg, 0, none⟩) L.length fc] 22)) (w1.heap.size + 2) (.slice (some ⟨fg, 0, none⟩) L.length fc) L := (hO6.base (show w1.heap.size + 2 ≤ W5.drew.heap.size by show _ ≤ W5.heap.size; omega)).below ((Below.refl _ w6).alloc (Nat.le_refl _) _)
      have hTL8 : TL w8 (w1.heap.size + 2) (.slice (some ⟨gg, 0, none⟩) (Lp.length + 1) cp) (Lp ++ [L]) := by
        refine hT7.snoc (H := W5.heap.size) hO7 ?_ (fun e => absurd e HLNE.out) hown8 hgr8 ?_ (fun i y k hy hk => HTC.out.lt hy hk) (fun k e => ?_)
        · refine .inr fun e => ?_
          have := (hub fg e.symm).2
          omega
        · rcases hat8 with e | e
          · exact .inl (by rw [e]; rfl)
          · exact .inr (by rw [e]; simp [Value.ownBlock])
        · obtain rfl : fg = k := by simpa [Value.ownBlock] using e
          exact h60'
      have hg9 := grown_setP w8 w1.heap.size 0 (.slice (some ⟨gg, 0, none⟩) (Lp.length + 1) cp)
      refine ⟨hbx8, ?_, ⟨?_, ?_⟩, _, hbx8.set _, ?_, ?_, ?_⟩
      · exact ((keeps_grown (row := none) (grown_of_below B7 none) (fun r e => by cases e)).trans (keeps_grown hgr8 (ownsRow_cells hT7.1.1))).trans ((KeepsOthers.setCell _ _ _).from _)
      · exact ((B7.mono (by omega)).grown hgr8 (by omega) (fun k e => by have := (hub k e).1; omega)).setCell (p := ⟨w1.heap.size, 0, none⟩) (by simp) _
      · refine (hg9.block _ (by omega) (fun e => by injection e with e; omega)).trans ((hgr8.block _ (by omega) (fun e => by have := (hub _ e.symm).1; omega)).trans (B7.block _ (by omega)))
      · show TL _ _ _ _
        rw [HMAP.out]
        exact hTL8.low hg9 (by omega)
      · exact ((hB5.trans (B7.mono (by omega))).grown hgr8 (by omega) (fun k e => by have := (hub k e).1; omega)).setCell (p := ⟨w1.heap.size, 0, none⟩) (by simp; omega) _
      · have := hg9.size; omega
    have hmx : Tryd.prog.follows Departure.mixedOrders = true := mixed
    clear hL hLp hmap hv1 hv2 hLne htc htl fne hbx hB5d
    gi_wp2
    refine region_round (fun _ => True) hmx (by kernel_rfl) trivial (fun _ => ?_)
    show wpAnyH _ _ _ _ _ 8 (Array.replicate 8 false) _ _
    refine wpAnyH_take (i := 1) (v := .int .i64 v1) rfl (by kernel_rfl) (by kernel_rfl) (by kernel_rfl) (fun _ _ _ h => h) (Or.inl ⟨by rfl, fun Wt hSw => by go_simp⟩) trivial ?_
    simp only [List.getElem_toArray, List.getElem_cons_zero, List.getElem_cons_succ, Act.put, List.setIfInBounds_toArray, List.set_cons_zero, List.set_cons_succ]
    refine wpAnyH_take (i := 2) (v := .int .i64 v2) rfl (by kernel_rfl) (by kernel_rfl) (by kernel_rfl) (fun _ _ _ h => h) (Or.inl ⟨by rfl, fun Wt hSw => by go_simp⟩) trivial ?_
    simp only [List.getElem_toArray, List.getElem_cons_zero, List.getElem_cons_succ, Act.put, List.setIfInBounds_toArray, List.set_cons_zero, List.set_cons_succ]
    refine wpAnyH_take (i := 3) (v := .int .i64 ((v1 ||| v2 : Nat) : Int)) rfl (by kernel_rfl) (by kernel_rfl) (by kernel_rfl) (fun _ _ _ h => h) (Or.inl ⟨by rfl, fun Wt hSw => by go_simp⟩) trivial ?_
    simp only [List.getElem_toArray, List.getElem_cons_zero, List.getElem_cons_succ, Act.put, List.setIfInBounds_toArray, List.set_cons_zero, List.set_cons_succ]
    refine wpAnyH_ready (rs := [0, 4]) (by kernel_rfl) (by simp) ?_
    refine AllReadyH.cons rfl (fun K hK => ?_) (AllReadyH.cons rfl (fun K hK => ?_) AllReadyH.nil)
    · go_simp
      refine hK.out _ _ trivial (fun _ => ?_)
      clear hK K
      refine wpAnyH_ready (rs := [4]) (by kernel_rfl) (by simp) ?_
      refine AllReadyH.cons rfl (fun K hK => ?_) AllReadyH.nil
      go_simp
      refine (HLO.out _ HTd.out).mono ?_
      rintro e w6 ⟨fg, fc, rfl, h60, h61, hO6, hb6⟩
      have B6 : Below W5.heap.size W5 w6 := ((Below.refl _ _).drew).trans (hb6.mono (by simp))
      have c6 := (B6.cell (p := ⟨w1.heap.size, 0, none⟩) hBl).trans cv
      refine hK.out _ _ trivial (fun _ => ?_)
      clear hK K
      refine wpAnyH_ready (rs := [5]) (by kernel_rfl) (by simp) ?_
      refine AllReadyH.cons rfl (fun K hK => ?_) AllReadyH.nil
      go_simp
      have B7 : Below W5.heap.size W5 (w6.alloc (.cells #[.slice (some ⟨fg, 0, none⟩) L.length fc] 22)) := B6.alloc B6.size _
      have c7 := (B7.cell (p := ⟨w1.heap.size, 0, none⟩) hBl).trans cv
      refine hK.out _ _ trivial (fun _ => ?_)
      clear hK K
      refine wpAnyH_ready (rs := [6]) (by kernel_rfl) (by simp) ?_
      refine AllReadyH.cons rfl (fun K hK => ?_) AllReadyH.nil
      refine step_append_lies _ (by rfl) (.tmp 14) (.tmp 19) 37 (by rfl) (w1.heap.size + 2) 22 j0 (.slice none 0 0) 1 24 Tryd.underlying37 HJ.out HJ0.out HJ1.out HJ2.out (by rfl) (by decide) u Lp.length cs (by rfl) (HTC.out.below B7).1.1 ⟨w6.heap.size, 0, none⟩ 1 1 [.slice (some ⟨fg, 0, none⟩) L.length fc] (by rfl) (by rfl) (World.news_of_block (cs := #[.slice (some ⟨fg, 0, none⟩) L.length fc]) (t := 22) (fr := (0, 0)) (World.alloc_heap_new w6 _)) (by simp [Value.oneCell']) (by omega) (by unfold maxLen; omega) (by omega) (by have := B6.size; simp; omega) (w6.heap.size + 1) (by simp) ?_
      intro gg cp w8 hown8 hgr8 hat8 hlt8
      obtain ⟨hbx8, hkf, hkp, hI8⟩ := HEND.out w6 fg fc h60 h61 hO6 B6 gg cp w8 hown8 hgr8 hat8 hlt8
      have c8 := hbx8.cell
      have f8 := hbx8.frozen
      have HKF := Lib.hid hkf; have HKP := Lib.hid hkp; have HI8 := Lib.hid hI8
      clear hbx8 hkf hkp hI8 hown8 hgr8 hat8 hlt8
      refine hK.out _ _ trivial (fun _ => ?_)
      clear hK K
      refine wpAnyH_ready (rs := [7]) (by kernel_rfl) (by simp) ?_
      refine AllReadyH.cons rfl (fun K hK => ?_) AllReadyH.nil
      go_simp
      refine hK.out _ _ trivial (fun _ => ?_)
      clear hK K
      refine wpAnyH_done (by kernel_rfl) ?_ _
      exact ⟨HKF.out, HKP.out, HI8.out⟩
    · go_simp
      refine (HLO.out _ HTd.out).mono ?_
      rintro e w6 ⟨fg, fc, rfl, h60, h61, hO6, hb6⟩
      have B6 : Below W5.heap.size W5 w6 := ((Below.refl _ _).drew).trans (hb6.mono (by simp))
      have c6 := (B6.cell (p := ⟨w1.heap.size, 0, none⟩) hBl).trans cv
      refine hK.out _ _ trivial (fun _ => ?_)
      clear hK K
      refine wpAnyH_ready (rs := [0, 5]) (by kernel_rfl) (by simp) ?_
      refine AllReadyH.cons rfl (fun K hK => ?_) (AllReadyH.cons rfl (fun K hK => ?_) AllReadyH.nil)
      · go_simp
        refine hK.out _ _ trivial (fun _ => ?_)
        clear hK K
        refine wpAnyH_ready (rs := [5]) (by kernel_rfl) (by simp) ?_
        refine AllReadyH.cons rfl (fun K hK => ?_) AllReadyH.nil
        go_simp
        have B7 : Below W5.heap.size W5 (w6.alloc (.cells #[.slice (some ⟨fg, 0, none⟩) L.length fc] 22)) := B6.alloc B6.size _
        have c7 := (B7.cell (p := ⟨w1.heap.size, 0, none⟩) hBl).trans cv
        refine hK.out _ _ trivial (fun _ => ?_)
        clear hK K
        refine wpAnyH_ready (rs := [6]) (by kernel_rfl) (by simp) ?_
        refine AllReadyH.cons rfl (fun K hK => ?_) AllReadyH.nil
        refine step_append_lies _ (by rfl) (.tmp 14) (.tmp 19) 37 (by rfl) (w1.heap.size + 2) 22 j0 (.slice none 0 0) 1 24 Tryd.underlying37 HJ.out HJ0.out HJ1.out HJ2.out (by rfl) (by decide) u Lp.length cs (by rfl) (HTC.out.below B7).1.1 ⟨w6.heap.size, 0, none⟩ 1 1 [.slice (some ⟨fg, 0, none⟩) L.length fc] (by rfl) (by rfl) (World.news_of_block (cs := #[.slice (some ⟨fg, 0, none⟩) L.length fc]) (t := 22) (fr := (0, 0)) (World.alloc_heap_new w6 _)) (by simp [Value.oneCell']) (by omega) (by unfold maxLen; omega) (by omega) (by have := B6.size; simp; omega) (w6.heap.size + 1) (by simp) ?_
        intro gg cp w8 hown8 hgr8 hat8 hlt8
        obtain ⟨hbx8, hkf, hkp, hI8⟩ := HEND.out w6 fg fc h60 h61 hO6 B6 gg cp w8 hown8 hgr8 hat8 hlt8
        have c8 := hbx8.cell
        have f8 := hbx8.frozen
        have HKF := Lib.hid hkf; have HKP := Lib.hid hkp; have HI8 := Lib.hid hI8
        clear hbx8 hkf hkp hI8 hown8 hgr8 hat8 hlt8
        refine hK.out _ _ trivial (fun _ => ?_)
        clear hK K
        refine wpAnyH_ready (rs := [7]) (by kernel_rfl) (by simp) ?_
        refine AllReadyH.cons rfl (fun K hK => ?_) AllReadyH.nil
        go_simp
        refine hK.out _ _ trivial (fun _ => ?_)
        clear hK K
        refine wpAnyH_done (by kernel_rfl) ?_ _
        exact ⟨HKF.out, HKP.out, HI8.out⟩
      · go_simp
        have B7 : Below W5.heap.size W5 (w6.alloc (.cells #[.slice (some ⟨fg, 0, none⟩) L.length fc] 22)) := B6.alloc B6.size _
        have c7 := (B7.cell (p := ⟨w1.heap.size, 0, none⟩) hBl).trans cv
        refine hK.out _ _ trivial (fun _ => ?_)
        clear hK K
        refine wpAnyH_ready (rs := [0]) (by kernel_rfl) (by simp) ?_
        refine AllReadyH.cons rfl (fun K hK => ?_) AllReadyH.nil
        go_simp
        refine hK.out _ _ trivial (fun _ => ?_)
        clear hK K
        refine wpAnyH_ready (rs := [6]) (by kernel_rfl) (by simp) ?_
        refine AllReadyH.cons rfl (fun K hK => ?_) AllReadyH.nil
        refine step_append_lies _ (by rfl) (.tmp 14) (.tmp 19) 37 (by rfl) (w1.heap.size + 2) 22 j0 (.slice none 0 0) 1 24 Tryd.underlying37 HJ.out HJ0.out HJ1.out HJ2.out (by rfl) (by decide) u Lp.length cs (by rfl) (HTC.out.below B7).1.1 ⟨w6.heap.size, 0, none⟩ 1 1 [.slice (some ⟨fg, 0, none⟩) L.length fc] (by rfl) (by rfl) (World.news_of_block (cs := #[.slice (some ⟨fg, 0, none⟩) L.length fc]) (t := 22) (fr := (0, 0)) (World.alloc_heap_new w6 _)) (by simp [Value.oneCell']) (by omega) (by unfold maxLen; omega) (by omega) (by have := B6.size; simp; omega) (w6.heap.size + 1) (by simp) ?_
        intro gg cp w8 hown8 hgr8 hat8 hlt8
        obtain ⟨hbx8, hkf, hkp, hI8⟩ := HEND.out w6 fg fc h60 h61 hO6 B6 gg cp w8 hown8 hgr8 hat8 hlt8
        have c8 := hbx8.cell
        have f8 := hbx8.frozen
        have HKF := Lib.hid hkf; have HKP := Lib.hid hkp; have HI8 := Lib.hid hI8
        clear hbx8 hkf hkp hI8 hown8 hgr8 hat8 hlt8
        refine hK.out _ _ trivial (fun _ => ?_)
        clear hK K
        refine wpAnyH_ready (rs := [7]) (by kernel_rfl) (by simp) ?_
        refine AllReadyH.cons rfl (fun K hK => ?_) AllReadyH.nil
        go_simp
        refine hK.out _ _ trivial (fun _ => ?_)
        clear hK K
        refine wpAnyH_done (by kernel_rfl) ?_ _
        exact ⟨HKF.out, HKP.out, HI8.out⟩
  case done =>
    rintro D ys W2 hDD rfl ⟨u, hbx, htl, hB, hs⟩ hK
    have hTL := htl.out
    rw [fin_mapP, HALL.out] at hTL
    have HTL := Lib.hid hTL
    have cv := hbx.out.cell
    clear hTL htl
    gi_wp2
    refine leaves_marks (H := w.heap.size) [D] _ ⟨by simp, fun E hE => ?_⟩ fun W' hss hb' => ?_
    · obtain rfl : E = D := by simpa using hE
      exact ⟨by omega, hK⟩
    · refine ⟨_, results_tmp2 rfl _ _ _, ⟨u, rfl, ?_⟩, hB.trans hb'⟩
      refine (HTL.out.kept (row := some D) ⟨hb'.os, hb'.tape, hb'.output, hb'.size, fun k _ hne => hss k (fun e => hne (by simpa using e))⟩ (fun r e => by cases e; exact ⟨_, hK, rfl⟩)).base (by omega)
  case stop =>
    rintro D c pre W _ _ h _
    exact h.elim
end Go.Proofs.YtbpcdgfcdahnlaaDoor
