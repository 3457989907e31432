/-
  Several texts in one: Lq0 Lq1 Lq2.
-/
import Derived.Test.YtbacocldjcenjaaDoorLj
import Derived.Test.YtbacocldjcenjaaDoorQa
namespace Go.Proofs.YtbacocldjcenjaaDoor
set_option maxRecDepth 100000
open Go.RowKit

theorem isG_rowsFQ {n : Nat} (h1 : 1 ≤ n) (h2 : n ≤ 62) {f : Nat → Nat → Bool} (hs : ∀ a b, f a b = f b a) (hi : ∀ a, f a a = false) : isG (n : Int) (rowsF n f) = true := by
  have hl : (rowsF n f).length = n := rowsF_length _ _
  have hbt : ∀ a b, a < n → bt (el (rowsF n f) a) b = (decide (b < n) && f a b) := fun a b ha => by
    rw [el_rowsF n f a ha]; unfold bt; rw [Int.toNat_natCast, bitsN_testBit]
  unfold isG
  rw [hl]
  simp only [Bool.and_eq_true, decide_eq_true_eq]
  refine ⟨⟨⟨⟨by omega, by omega⟩, trivial⟩, ?_⟩, ?_⟩
  · unfold rowsOk
    rw [List.all_eq_true]
    intro v hv
    have hvn := List.mem_range.1 hv
    unfold rowOk
    rw [hbt v v hvn, hi, el_rowsF n f v hvn]
    have hlt := bitsN_lt (f v) n
    have e : ((2 : Int) ^ n) = ((2 ^ n : Nat) : Int) := by simp
    simp only [Int.toNat_natCast, e, Bool.and_false, Bool.not_false, Bool.and_true, Bool.and_eq_true, decide_eq_true_eq]
    omega
  · unfold symTo symAt
    rw [List.all_eq_true]
    intro i hi'
    rw [List.all_eq_true]
    intro j hj
    have h6 := List.mem_range.1 hi'
    have h7 := List.mem_range.1 hj
    rw [hbt i j h6, hbt j i (by omega), hs, decide_eq_true (by omega), decide_eq_true (by omega)]; simp
theorem lfS_ne (m : Nat) (fs : List Int) : ∀ j, ∀ p, p ∈ lfS m fs j → p.1 ≠ p.2
  | 0, p, h => by cases h
  | j + 1, p, h => by
    rw [lfS, List.mem_append] at h
    rcases h with h | h
    · exact lfS_ne m fs j p h
    · unfold arcN at h
      have := (List.mem_filter.1 h).2
      exact bne_iff_ne.1 this
theorem lift_isG {n m k : Nat} {fs : List Int} (h1 : 1 ≤ n * m) (h2 : n * m ≤ 62) : isG ((n * m : Nat) : Int) (rowsF (n * m) (adjS (lfS m fs k))) = true := by
  refine isG_rowsFQ h1 h2 (adjS_symm _) fun a => ?_
  cases e : adjS (lfS m fs k) a a with
  | false => rfl
  | true =>
    obtain ⟨p, hp, h2, h3⟩ := (adjS_iff _ _ _).1 e
    have := lfS_ne m fs k p hp
    omega
/-- The number of parts. -/
def npN (zs : List Int) : Nat := (prN zs zs.length).length
theorem ownC_prN {zs D : List Int} (hL : LdF zs D zs.length) : ∀ v, v ≤ zs.length → ownC D v = (prN zs v).length
  | 0, _ => by simp [ownC, prN]
  | v + 1, h => by
    have hl := lead_iff hL (show v < zs.length by omega)
    rw [ownC_succ, ownC_prN hL v (by omega)]
    by_cases e : el D v = (v : Int)
    · rw [if_pos e, prN_yes (by rw [hl, decide_eq_true e]), List.length_append]; rfl
    · rw [if_neg e, prN_no (by rw [hl, decide_eq_false e])]; rfl
theorem npN_le (zs : List Int) : npN zs ≤ zs.length := prN_length zs zs.length
theorem npN_eq {zs : List Int} {F : Nat → Nat × Nat} {p : Nat} (h62 : zs.length ≤ 62) (hz : ∀ i, i < zs.length → (el zs i).toNat < 2 ^ zs.length) (hF : ∀ v, v < zs.length → RD zs v (F v)) (hp : PN zs.length F p) : p = npN zs := by
  have h := congrArg List.length (pts_all h62 hz hF hp)
  rw [List.length_map, List.length_range] at h
  rw [h, PtL, PtU_length]; rfl

set_option maxHeartbeats 3200000 in
theorem partsN_some (b off cap : Nat) (zs : List Int) (w : World) (hb : b < w.heap.size) (hc : Cells w b off zs) (hg : isG zs.length zs = true) :
    Calls Tryd.prog 12 #[.agg #[.int .i64 zs.length, .slice (some ⟨b, off, none⟩) zs.length cap]] w fun e w' => e = .returned (.int .i64 (npN zs : Nat)) ∧ Below w.heap.size w w' := by
  obtain ⟨p1, p2, -, -, -⟩ := isG_parts hg
  have hm62 : zs.length ≤ 62 := by omega
  have D0 : Below w.heap.size w (w.alloc (.cells #[.int .i64 zs.length, .slice (some ⟨b, off, none⟩) zs.length cap] 38)) := (Below.refl _ _).alloc (Nat.le_refl _) _
  have HG0 := Lib.hid (GBox.new (n := zs.length) (cap := cap) hb hc)
  have hld := leadersF_some b off cap zs (w.alloc (.cells #[.int .i64 zs.length, .slice (some ⟨b, off, none⟩) zs.length cap] 38)) (Nat.lt_of_lt_of_le hb D0.size) (hc.below D0 hb) hg
  clear hg hc
  go_enter Tryd.func12, Tryd.ntmps12
  go_wp2_with fail
  refine hld.mono ?_
  rintro e w1 ⟨u, D, rfl, hO, hL, hb1⟩
  have E1 := Lib.hid (D0.trans (hb1.mono (by simp)))
  obtain ⟨gd, cd, rfl⟩ : ∃ gd cd, u = .slice (some ⟨gd, 0, none⟩) zs.length cd := by
    rcases hO.form with ⟨_, h0⟩ | ⟨gd, cd, h1, h2, h3⟩
    · have h4 := congrArg List.length h0
      rw [hL.len, List.length_nil] at h4
      omega
    · rw [hL.len] at h1
      exact ⟨gd, cd, h1⟩
  have HCD : Hid (∀ k, k < zs.length → w1.cell? ⟨gd, k, none⟩ = some (.int .i64 (el D k))) := fun k hk => by
    have h := hO
    unfold Own at h; rw [hL.len] at h
    exact (World.ownsRow.cellAt h k (by omega)).trans (map_at _ k (by rw [hL.len]; omega))
  have G1 := HG0.out.below (hb1.mono (by simp))
  have b0 := G1.b0
  have HP : Hid (ownC D zs.length = npN zs) := ownC_prN hL _ (Nat.le_refl _)
  clear hb1 hld hO hL
  go_wp2
  go_loop [4, 5] (fun c i => ∃ k : Nat, k ≤ zs.length ∧ i = .int .i64 k ∧ c = .int .i64 (ownC D k)) (fun _ i => zs.length - (intOf i).toNat)
  case atStart => exact ⟨0, Nat.zero_le _, rfl, rfl⟩
  case round =>
    obtain ⟨k, hk, rfl, rfl⟩ := hrel
    obtain ⟨a, ha⟩ : ∃ a, a = ownC D k := ⟨_, rfl⟩
    have hak := ownC_le D k
    rw [← ha] at hak ⊢
    by_cases hlt : (k : Int) < zs.length
    · have hkl : k < zs.length := by omega
      have hk0 : (0 : Int) ≤ k := by omega
      obtain ⟨d, hd⟩ : ∃ d, d = el D k := ⟨_, rfl⟩
      have hcell : w1.cell? ⟨gd, k, none⟩ = some (.int .i64 d) := by rw [hd]; exact HCD.out k hkl
      have HS := Lib.hid (ownC_succ D k)
      by_cases he : d = (k : Int)
      · have t1 : (d == (k : Int)) = true := by rw [beq_iff_eq]; exact he
        have HN : Hid (ownC D (k + 1) = a + 1) := by show ownC D (k + 1) = _; rw [HS.out, ← ha, if_pos (by rw [← hd]; exact he)]
        have hw : IntKind.i64.wrap ((a : Int) + 1) = (a : Int) + 1 := IntWalk.i64_in _ ⟨by omega, by omega⟩
        clear he hd ha
        go_wp2
        go_round
        case rel => exact ⟨k + 1, by omega, by go_num, congrArg (Value.int .i64) (by rw [HN.out]; omega)⟩
        case measure => simp [intOf]; omega
      · have t1 : (d == (k : Int)) = false := by rw [beq_eq_false_iff_ne]; exact he
        have HN : Hid (ownC D (k + 1) = a) := by show ownC D (k + 1) = _; rw [HS.out, ← ha, if_neg (by rw [← hd]; exact he)]; rfl
        clear he hd ha
        go_wp2
        go_round
        case rel => exact ⟨k + 1, by omega, by go_num, congrArg (Value.int .i64) (by rw [HN.out])⟩
        case measure => simp [intOf]; omega
    · have hkl : k = zs.length := by omega
      have HQ : Hid (a = npN zs) := by show _ = _; rw [ha, hkl]; exact HP.out
      clear ha
      go_wp2
      go_ret
      rw [HQ.out]
      exact ⟨rfl, E1.out⟩
end Go.Proofs.YtbacocldjcenjaaDoor
namespace Go.Proofs.YtbacocldjcenjaaDoor
set_option maxRecDepth 100000
open Go.RowKit Go.Shelf

attribute [local go_sem] Oper.semAt_some

theorem kept_rowQ {W W' : World} {row : Option Nat} {B k : Nat} {o : Obj} (hg : W.grownBy W' row) (hr : ∀ r, row = some r → B ≤ r ∧ ∃ o : Obj, W.heap[r]? = some o ∧ o.isCells = false) (hk : k < B) (h : W.heap[k]? = some o) : W'.heap[k]? = some o :=
  (hg.block k (Array.getElem?_eq_some_iff.1 h).1 (fun e => by have := (hr k e.symm).1; omega)).trans h
/-- A block of one cell. -/
def BxQ (W : World) (k : Nat) (t : TypeId) (v : Value) : Prop := W.heap[k]? = some (.cells #[v] t (0, 0))
theorem BxQ.cell {W : World} {k : Nat} {t : TypeId} {v : Value} (h : BxQ W k t v) : W.cell? ⟨k, 0, none⟩ = some v := by rw [cell_of_row W k 0 _ _ _ h]; rfl
theorem BxQ.frozen {W : World} {k : Nat} {t : TypeId} {v : Value} (h : BxQ W k t v) : W.frozen? ⟨k, 0, none⟩ = false := frozen_of_row W k 0 _ _ h
theorem BxQ.lt {W : World} {k : Nat} {t : TypeId} {v : Value} (h : BxQ W k t v) : k < W.heap.size := (Array.getElem?_eq_some_iff.1 h).1
theorem BxQ.set {W : World} {k : Nat} {t : TypeId} {v : Value} (h : BxQ W k t v) (x : Value) : BxQ (W.setCell ⟨k, 0, none⟩ x) k t x := by
  unfold BxQ at *
  rw [heap_setCell_same W k 0 _ _ _ h]; rfl
theorem grown_setQ (W : World) (k i : Nat) (x : Value) : W.grownBy (W.setCell ⟨k, i, none⟩ x) (some k) := grown_set ⟨rfl, rfl, rfl, Nat.le_refl _, fun _ _ _ => rfl⟩ _ i x

theorem own_sliceQ {w : World} {B : Nat} {u : Value} {L : List Int} (h : Own w B u L) : ∃ a l c, u = .slice a l c := by
  rcases h.form with ⟨rfl, _⟩ | ⟨g, cap, rfl, _⟩
  · exact ⟨_, _, _, rfl⟩
  · exact ⟨_, _, _, rfl⟩
theorem own_fullQ {w : World} {B : Nat} {u : Value} {L : List Int} (h : Own w B u L) (hl : 1 ≤ L.length) : ∃ g cap, u = .slice (some ⟨g, 0, none⟩) L.length cap ∧ B ≤ g ∧ g < w.heap.size := by
  rcases h.form with ⟨_, h0⟩ | ⟨g, cap, h1, h2, h3⟩
  · rw [h0] at hl; simp at hl
  · exact ⟨g, cap, h1, h2, h3⟩

theorem own_cellsQ {w : World} {B g cap : Nat} {L : List Int} (h : Own w B (.slice (some ⟨g, 0, none⟩) L.length cap) L) : Cells w g 0 L := fun i hi => by
  rcases h.sl with ⟨_, _, e, e2⟩ | ⟨b, off, c, e, _, h2⟩
  · rw [e2] at hi; simp at hi
  · injection e with e1 _ _
    injection e1 with e1
    injection e1 with e1 e3
    subst e1; subst e3
    exact h2 i hi
/-- The number of parts of the lift, and the code. -/
def LpN (n m : Int) (k : Nat) (fs : List Int) : Int := if isB n m k fs then (npN (rowsF (n.toNat * m.toNat) (adjS (lfS m.toNat fs k))) : Nat) else 0
def LpC (n m : Int) (k : Nat) (fs : List Int) : Int := if isB n m k fs then 0 else 1

set_option maxHeartbeats 800000 in
theorem implLp_no (n m : Int) (v : Value) (k : Nat) (fs : List Int) (w : World) (hs : Sa w v k fs) (hl : k ≤ 9223372036854775807) (hg : isB n m k fs = false) :
    Calls Tryd.prog 7 #[.agg #[.int .i64 n, .int .i64 m, v]] w fun e w' => e = .returned (.tuple #[.int .i64 0, .int .i64 1]) ∧ Below w.heap.size w w' := by
  have D0 : Below w.heap.size w (w.alloc (.cells #[.int .i64 n, .int .i64 m, v] 30)) := (Below.refl _ _).alloc (Nat.le_refl _) _
  have hlf := implLf_any n m v k fs (w.alloc (.cells #[.int .i64 n, .int .i64 m, v] 30)) (hs.below D0) hl
  rw [show LfC n m k fs = 1 by unfold LfC; simp [hg]] at hlf
  clear hs hg
  go_enter Tryd.func7, Tryd.ntmps7
  go_wp2_with (go_at_call 14; refine hlf.mono ?_; rintro e w1 ⟨⟨u, rfl, hO⟩, hb1⟩; obtain ⟨a, l, c, rfl⟩ := own_sliceQ hO)
  go_ret2
  exact ⟨rfl, (D0.trans (hb1.mono (by simp))).alloc (by have := hb1.size; simp at this; omega) _⟩

set_option maxHeartbeats 6400000 in
theorem implLp_in (n m k cap : Nat) (sa : Option Addr) (fs : List Int) (w : World) (hs : Sa w (.slice sa k cap) k fs) (hg : isB n m k fs = true) (h1 : 1 ≤ n ∧ n ≤ 10 ∧ 1 ≤ m ∧ m ≤ 62 ∧ n * m ≤ 62 ∧ k ≤ 16) (hT : Tab w) :
    CallsIn Fence.wide 5 Tryd.prog 7 #[.agg #[.int .i64 n, .int .i64 m, .slice sa k cap]] w fun e w' => e = .returned (.tuple #[.int .i64 (npN (rowsF (n * m) (adjS (lfS m fs k))) : Nat), .int .i64 0]) ∧ Below w.heap.size w w' := by
  obtain ⟨zs, hzs⟩ : ∃ zs, zs = rowsF (n * m) (adjS (lfS m fs k)) := ⟨_, rfl⟩
  have hlen : zs.length = n * m := by rw [hzs, rowsF_length]
  have hnm1 : 1 ≤ n * m := Nat.mul_pos h1.1 h1.2.2.1
  have hgz : isG (zs.length : Int) zs = true := by rw [hlen, hzs]; exact lift_isG hnm1 h1.2.2.2.2.1
  have h62 : zs.length ≤ 62 := by rw [hlen]; exact h1.2.2.2.2.1
  have hz : ∀ i, i < zs.length → (el zs i).toNat < 2 ^ zs.length := fun i hi => by
    rw [hlen, hzs]
    rw [hlen] at hi
    rw [el_rowsF _ _ _ hi, Int.toNat_natCast]
    exact bitsN_lt _ _
  obtain ⟨F, hF⟩ : ∃ F : Nat → Nat × Nat, ∀ v, v < zs.length → RD zs v (F v) := by
    refine ⟨fun v => if h : v < zs.length then Classical.choose (RD.ex h h62 hz) else (0, 0), fun v hv => ?_⟩
    simp only [dif_pos hv]
    exact Classical.choose_spec (RD.ex hv h62 hz)
  obtain ⟨p, hpn, hp⟩ := PN.ex h62 hz hF
  have hpe := npN_eq h62 hz hF hp
  have D0 : Below w.heap.size w (w.alloc (.cells #[.int .i64 n, .int .i64 m, .slice sa k cap] 30)) := (Below.refl _ _).alloc (Nat.le_refl _) _
  have hlf := implLf_any n m (.slice sa k cap) k fs (w.alloc (.cells #[.int .i64 n, .int .i64 m, .slice sa k cap] 30)) (hs.below D0) (by omega)
  rw [show LfN n m k fs = (zs.length : Nat) by unfold LfN; rw [hlen]; simp [hg], show LfL n m k fs = zs by unfold LfL; rw [hzs]; simp [hg], show LfC n m k fs = 0 by unfold LfC; simp [hg]] at hlf
  rw [← hzs, ← hpe]
  have HGZ := Lib.hid hgz; have HF := Lib.hid hF; have HPN := Lib.hid hp
  have HT := Lib.hid hT
  have hTl := hT.lt
  have hzp : 1 ≤ zs.length := by omega
  clear hs hg hT hzs hgz hF hp hz hlen hnm1 hpe
  refine callsIn_of_wp_marks Tryd.func7 rfl trivial ?_ rfl
  simp only [Tryd.ntmps7, List.size_toArray, List.length_cons, List.length_nil, Nat.reduceAdd, Nat.reduceSub, Array.replicate_succ, Array.replicate_zero, List.push_toArray, List.append_toArray, List.nil_append, List.cons_append]
  gi_upto_region 2 with (refine ⟨trivial, ?_⟩; gi_at_call 14; refine (callsIn_wide.2 hlf).mono ?_; rintro e w1 ⟨⟨u, rfl, hO⟩, hb1⟩; obtain ⟨gl, cl, rfl, hgl0, hgl1⟩ := own_fullQ hO hzp)
  have D1 : Below w.heap.size w w1 := D0.trans (hb1.mono (by simp))
  have s1 : w.heap.size + 1 ≤ w1.heap.size := by have := hb1.size; simpa using this
  have HCL : Hid (Cells w1 gl 0 zs) := own_cellsQ hO
  clear hlf hb1 D0 hO hgl0
  obtain ⟨A, hA⟩ : ∃ A, A = w1.heap.size := ⟨_, rfl⟩
  obtain ⟨Wa, hWa⟩ : ∃ Wa, Wa = w1.alloc (.cells #[.int .i64 zs.length, .slice (some ⟨gl, 0, none⟩) zs.length cl] 38) := ⟨_, rfl⟩
  refine at_world (w' := Wa) ?_ (by rw [hWa])
  have hba : Below w1.heap.size w1 Wa := by rw [hWa]; exact (Below.refl _ _).alloc (Nat.le_refl _) _
  have sa1 : Wa.heap.size = A + 1 := by rw [hWa, hA]; simp
  have XGa : Wa.heap[A]? = some (.cells #[.int .i64 zs.length, .slice (some ⟨gl, 0, none⟩) zs.length cl] 38 (0, 0)) := by rw [hWa, hA]; exact World.alloc_heap_new w1 _
  rw [← hA] at hba s1 hgl1 ⊢
  clear hWa hA
  gi_upto_region 5 with fail
  obtain ⟨Wb, hWb⟩ : ∃ Wb, Wb = Wa.alloc (.cells #[.int .i64 0] 2) := ⟨_, rfl⟩
  refine at_world (w' := Wb) ?_ (by rw [hWb])
  have hbb : Below Wa.heap.size Wa Wb := by rw [hWb]; exact (Below.refl _ _).alloc (Nat.le_refl _) _
  have sb : Wb.heap.size = A + 2 := by rw [hWb]; simp [sa1]
  have BXb : Hid (BxQ Wb (A + 1) 2 (.int .i64 0)) := by show BxQ _ _ _ _; rw [hWb, ← sa1]; exact World.alloc_heap_new Wa _
  have XGb := (hbb.block A (by omega)).trans XGa
  obtain ⟨b0, b1, -, -⟩ := two_cells XGb
  clear hWb XGa
  gi_wp2_with (refine ⟨trivial, ?_⟩; gi_at_call 15; refine (callsIn_wide.2 (partsIn_any _ _ _)).mono ?_; rintro e w' ⟨rfl, rfl⟩)
  obtain ⟨Wm, hWm⟩ : ∃ Wm, Wm = Wb.alloc (.cells #[.int .i64 zs.length, .slice (some ⟨gl, 0, none⟩) zs.length cl] 38) := ⟨_, rfl⟩
  refine at_world (w' := Wm) ?_ (by rw [hWm])
  have hbbm : Below Wb.heap.size Wb Wm := by rw [hWm]; exact (Below.refl _ _).alloc (Nat.le_refl _) _
  have hbm : Below A w1 Wm := (hba.trans (hbb.mono (by omega))).trans (hbbm.mono (by omega))
  have sm : Wm.heap.size = A + 3 := by rw [hWm]; simp [sb]
  have BXm : Hid (BxQ Wm (A + 1) 2 (.int .i64 (0 : Nat))) := (hbbm.block _ BXb.out.lt).trans BXb.out
  have haM : Wm.heap[A + 2]? = some (.cells #[.int .i64 zs.length, .slice (some ⟨gl, 0, none⟩) zs.length cl] 38 (0, 0)) := by rw [hWm, ← sb]; exact World.alloc_heap_new Wb _
  have hEm : Below w.heap.size w Wm := D1.trans (hbm.mono (by omega))
  have hcM : Cells Wm gl 0 zs := HCL.out.below hbm hgl1
  have hst := parts_stops 4 (by omega) (A + 2) (A + 1) gl 0 cl zs F p HGZ.out HF.out HPN.out Wm haM (by omega) hcM (HT.out.belowAll hEm) (by omega) (by omega)
  obtain ⟨f1, hf1⟩ : ∃ f1 : Fin p → Nat, f1 = fun x => (F (lo (lfN zs.length F x.1))).1 := ⟨_, rfl⟩
  obtain ⟨f2, hf2⟩ : ∃ f2 : Fin p → Nat, f2 = fun x => (F (lo (lfN zs.length F x.1))).2 := ⟨_, rfl⟩
  rw [show (fun x : Fin p => (#[.int .i64 ((F (lo (lfN zs.length F x.1))).1 : Nat), .int .i64 ((F (lo (lfN zs.length F x.1))).2 : Nat)] : Array Value)) = fun x => #[.int .i64 (f1 x), .int .i64 (f2 x)] by rw [hf1, hf2]] at hst
  clear hWm b0 b1 hf1 hf2 hcM haM BXb hbbm hba hbb XGb
  refine wpIn_rangeFunc_ownG (α := Fin p) rfl (by omega) (gf := 27) (lb := #[.pointer (some ⟨A + 2, 0, none⟩)]) rfl trivial (enters_of Tryd.func27 (by kernel_rfl) rfl)
    hst KpG.tr (KpG.put (by omega) (by omega)) (Below.refl _ _) (fun _ => rfl)
    (fun pre W' => Hid (BxQ W' (A + 1) 2 (.int .i64 pre.length)) ∧ Below w.heap.size w W' ∧ Wm.heap.size ≤ W'.heap.size)
    (fun _ _ _ => False)
    ?hI (fun _ _ _ _ _ hs _ _ => hs) ?h0c (fun x => { tmps := #[.agg #[.int .i64 n, .int .i64 m, .slice sa k cap], .pointer (some ⟨w.heap.size, 0, none⟩), .int .i64 0, .int .i64 0, .pointer (some ⟨A, 0, none⟩), .int .i64 0, .pointer (some ⟨A + 1, 0, none⟩), .tuple #[.agg #[.int .i64 zs.length, .slice (some ⟨gl, 0, none⟩) zs.length cl], .int .i64 0], .agg #[.int .i64 n, .int .i64 m, .slice sa k cap], .tuple #[.agg #[.int .i64 zs.length, .slice (some ⟨gl, 0, none⟩) zs.length cl], .int .i64 0], .agg #[.int .i64 zs.length, .slice (some ⟨gl, 0, none⟩) zs.length cl], .int .i64 0, .int .i64 0, .bool false, undef, .agg #[.int .i64 zs.length, .slice (some ⟨gl, 0, none⟩) zs.length cl], .func (.func 27) #[] #[.pointer (some ⟨A + 2, 0, none⟩)], .int .i64 (f1 x), .int .i64 (f2 x), undef, undef, undef], defers := [] }) ?assign ?body ?done ?stop
  case hI =>
    rintro pre A' B row ⟨h1, h3, h4⟩ hg hr
    exact ⟨kept_rowQ hg hr (by omega) h1.out, h3.grown hg h3.size (fun k e => by have := (hr k e).1; omega), Nat.le_trans h4 hg.size⟩
  case h0c => exact ⟨BXm, hEm, Nat.le_refl _⟩
  case assign =>
    intro l y W K hK
    gi_wp2
    simpa using hK
  case body =>
    rintro l pre x W5 ⟨hbx, hB5, hs5⟩ hlen
    have cv := hbx.out.cell
    have fv := hbx.out.frozen
    have hBl := hbx.out.lt
    have hpl : pre.length ≤ 62 := by omega
    have gw : IntKind.i64.wrap ((pre.length : Int) + 1) = ((pre.length : Int) + 1) := IntWalk.i64_in _ (by omega)
    have HN : Hid (BxQ (W5.setCell ⟨A + 1, 0, none⟩ (.int .i64 ((pre.length : Int) + 1))) (A + 1) 2 (.int .i64 ((pre.length : Int) + 1))) := hbx.out.set _
    have HKF : Hid (KeepsFrom Wm.heap.size W5 (W5.setCell ⟨A + 1, 0, none⟩ (.int .i64 ((pre.length : Int) + 1)))) := (KeepsOthers.setCell _ _ _).from _
    have HKP : Hid (KpG (A + 1) (A + 2) W5 (W5.setCell ⟨A + 1, 0, none⟩ (.int .i64 ((pre.length : Int) + 1)))) := ⟨(Below.refl _ _).setCell (p := ⟨A + 1, 0, none⟩) (by simp) _, Below.heap_setCell _ _ _ _ (by simp)⟩
    have hB6 := hB5.setCell (p := ⟨A + 1, 0, none⟩) (show w.heap.size ≤ A + 1 by omega) (.int .i64 ((pre.length : Int) + 1))
    clear hbx hB5
    gi_wp2
    refine ⟨HKF.out, HKP.out, ?_, hB6, by simpa using hs5⟩
    rw [show ((pre ++ [x]).length : Int) = (pre.length : Int) + 1 by simp]
    exact HN
  case done =>
    rintro D ys W2 hDD rfl ⟨hbx, hB, hs⟩ hK
    have cv := hbx.out.cell
    rw [List.length_finRange] at cv
    clear hbx
    gi_wp2
    refine leaves_marks (H := w.heap.size) [D] _ ⟨by simp, fun E hE => ?_⟩ fun W' hss hb' => ?_
    · obtain rfl : E = D := by simpa using hE
      exact ⟨by omega, hK⟩
    · exact ⟨_, results_tmp2 rfl _ _ _, rfl, hB.trans hb'⟩
  case stop =>
    rintro D c pre W _ _ h _
    exact h.elim

theorem implLp_any (n m : Int) (v : Value) (k : Nat) (fs : List Int) (w : World) (hs : Sa w v k fs) (hl : k ≤ 9223372036854775807) (hT : Tab w) :
    Calls Tryd.prog 7 #[.agg #[.int .i64 n, .int .i64 m, v]] w fun e w' => e = .returned (.tuple #[.int .i64 (LpN n m k fs), .int .i64 (LpC n m k fs)]) ∧ Below w.heap.size w w' := by
  unfold LpN LpC
  cases hg : isB n m k fs
  · exact implLp_no n m v k fs w hs hl hg
  · obtain ⟨N, M, rfl, rfl, h1, h2, h3, h4, h5, h6, hav⟩ := isB_nats hg
    have hf := hs.form
    obtain ⟨sa, cap, rfl⟩ : ∃ sa cap, v = .slice sa k cap := ⟨_, _, hf⟩
    exact callsIn_wide.1 (implLp_in N M k cap sa fs w hs hg ⟨h1, h2, h3, h4, h5, h6⟩ hT)
end Go.Proofs.YtbacocldjcenjaaDoor
namespace Go.Proofs.YtbacocldjcenjaaDoor
set_option maxRecDepth 100000
open Go.RowKit

set_option maxHeartbeats 800000 in
theorem specLp_no (n m : Int) (v : Value) (k : Nat) (fs : List Int) (w : World) (hs : Sa w v k fs) (hl : k ≤ 9223372036854775807) (hg : isB n m k fs = false) :
    Calls Tryd.prog 5 #[.agg #[.int .i64 n, .int .i64 m, v]] w fun e w' => e = .returned (.tuple #[.int .i64 0, .int .i64 1]) ∧ Below w.heap.size w w' := by
  have D0 : Below w.heap.size w (w.alloc (.cells #[.int .i64 n, .int .i64 m, v] 30)) := (Below.refl _ _).alloc (Nat.le_refl _) _
  have his := l03Is_any n m v k fs (w.alloc (.cells #[.int .i64 n, .int .i64 m, v] 30)) (hs.below D0) hl
  rw [hg] at his
  clear hs hg
  go_enter Tryd.func5, Tryd.ntmps5
  go_wp2_with (go_at_call 10; refine his.mono ?_; rintro e w1 ⟨rfl, hb1⟩)
  go_ret2
  exact ⟨rfl, D0.trans (hb1.mono (by simp))⟩

set_option maxHeartbeats 1600000 in
theorem specLp_yes (n m k cap : Nat) (sa : Option Addr) (fs : List Int) (w : World) (hs : Sa w (.slice sa k cap) k fs) (hg : isB n m k fs = true) (hav : AvOk n m k fs) (h1 : 1 ≤ n ∧ n ≤ 10 ∧ 1 ≤ m ∧ m ≤ 62 ∧ n * m ≤ 62 ∧ k ≤ 16) :
    Calls Tryd.prog 5 #[.agg #[.int .i64 n, .int .i64 m, .slice sa k cap]] w fun e w' => e = .returned (.tuple #[.int .i64 (npN (rowsF (n * m) (adjS (lfS m fs k))) : Nat), .int .i64 0]) ∧ Below w.heap.size w w' := by
  obtain ⟨zs, hzs⟩ : ∃ zs, zs = rowsF (n * m) (adjS (lfS m fs k)) := ⟨_, rfl⟩
  have hlen : zs.length = n * m := by rw [hzs, rowsF_length]
  have hgz : isG (zs.length : Int) zs = true := by rw [hlen, hzs]; exact lift_isG (Nat.mul_pos h1.1 h1.2.2.1) h1.2.2.2.2.1
  have D0 : Below w.heap.size w (w.alloc (.cells #[.int .i64 n, .int .i64 m, .slice sa k cap] 30)) := (Below.refl _ _).alloc (Nat.le_refl _) _
  have his := l03Is_any n m (.slice sa k cap) k fs (w.alloc (.cells #[.int .i64 n, .int .i64 m, .slice sa k cap] 30)) (hs.below D0) (by omega)
  rw [hg] at his
  have HG0 := Lib.hid (World.alloc_heap_new w (.cells #[.int .i64 n, .int .i64 m, .slice sa k cap] 30))
  obtain ⟨W0, hW0⟩ : ∃ W0, W0 = w.alloc (.cells #[.int .i64 n, .int .i64 m, .slice sa k cap] 30) := ⟨_, rfl⟩
  have sz0 : w.heap.size + 1 ≤ W0.heap.size := by rw [hW0]; simp
  rw [← hW0] at HG0 D0 his
  have HLI : Hid (∀ W1 : World, Below W0.heap.size W0 W1 → Calls Tryd.prog 11 #[.agg #[.int .i64 n, .int .i64 m, .slice sa k cap]] W1 fun e w' => (∃ g b, e = .returned (.tuple #[.agg #[.int .i64 zs.length, .slice (some ⟨g, 0, none⟩) zs.length zs.length], .bool b]) ∧ Blk w' g zs ∧ W1.heap.size ≤ g) ∧ Below W1.heap.size W1 w') := fun W1 h1' =>
    (l03Lift_any n m k cap sa fs W1 (hs.below (D0.trans (h1'.mono (by omega)))) hav h1).mono fun e w' ⟨⟨g, he, hB, hge⟩, hb⟩ => ⟨⟨g, _, by rw [hlen]; exact he, by rw [hzs]; exact hB, hge⟩, hb⟩
  rw [← hzs]
  have HGZ := Lib.hid hgz
  obtain ⟨⟨b0, b1, b2⟩, -⟩ := three_cells HG0.out
  clear hs hg hav hzs hlen hgz h1
  go_enter Tryd.func5, Tryd.ntmps5
  go_upto_region 1 with fail
  rw [← hW0]
  clear hW0
  go_wp2_with fail
  refine his.mono ?_
  rintro e w1 ⟨rfl, E1⟩
  have hli := Lib.hid (HLI.out w1 E1)
  have e1 := E1.size
  obtain ⟨⟨b0, b1, b2⟩, -⟩ := three_cells ((E1.block w.heap.size (by omega)).trans HG0.out)
  clear his HLI
  go_wp2_with fail
  refine hli.out.mono ?_
  rintro e w2 ⟨⟨g, b, rfl, hB, hg⟩, hb2⟩
  have E2 := E1.trans (hb2.mono e1)
  have e2 := E2.size
  have hB' := Lib.hid hB
  obtain ⟨w3, h3⟩ : ∃ w3, w3 = w2.alloc (.cells #[.int .i64 zs.length, .slice (some ⟨g, 0, none⟩) zs.length zs.length] 38) := ⟨_, rfl⟩
  have X3 : w3.heap[w2.heap.size]? = some (.cells #[.int .i64 zs.length, .slice (some ⟨g, 0, none⟩) zs.length zs.length] 38 (0, 0)) := by rw [h3]; exact World.alloc_heap_new w2 _
  have hb3 : Below w2.heap.size w2 w3 := by rw [h3]; exact (Below.refl _ _).alloc (Nat.le_refl _) _
  have E3 := E2.trans (hb3.mono e2)
  have hpa := partsN_some g 0 zs.length zs w3 (Nat.lt_of_lt_of_le hB.lt hb3.size) (fun i hi => by rw [Nat.zero_add]; exact (hB'.out.belowAll hb3).cell hi) HGZ.out
  obtain ⟨c0, c1, -, -⟩ := two_cells X3
  clear hli hb2 b0 b1 b2 hB hb3 X3
  go_wp2_with fail
  rw [← h3]
  clear h3
  refine hpa.mono ?_
  rintro e w4 ⟨rfl, hb4⟩
  have E4 := E3.trans (hb4.mono E3.size)
  clear hpa hb4 c0 c1
  go_wp2_with fail
  go_ret2
  exact ⟨rfl, D0.trans (E4.mono (by omega))⟩

theorem specLp_any (n m : Int) (v : Value) (k : Nat) (fs : List Int) (w : World) (hs : Sa w v k fs) (hl : k ≤ 9223372036854775807) :
    Calls Tryd.prog 5 #[.agg #[.int .i64 n, .int .i64 m, v]] w fun e w' => e = .returned (.tuple #[.int .i64 (LpN n m k fs), .int .i64 (LpC n m k fs)]) ∧ Below w.heap.size w w' := by
  unfold LpN LpC
  cases hg : isB n m k fs
  · exact specLp_no n m v k fs w hs hl hg
  · obtain ⟨N, M, rfl, rfl, h1, h2, h3, h4, h5, h6, hav⟩ := isB_nats hg
    have hf := hs.form
    obtain ⟨sa, cap, rfl⟩ : ∃ sa cap, v = .slice sa k cap := ⟨_, _, hf⟩
    exact specLp_yes N M k cap sa fs w hs hg hav ⟨h1, h2, h3, h4, h5, h6⟩
end Go.Proofs.YtbacocldjcenjaaDoor
