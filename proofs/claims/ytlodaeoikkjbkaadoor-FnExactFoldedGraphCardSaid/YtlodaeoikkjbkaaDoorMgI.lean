/-
  Several texts in one: An1 An3.
-/
import Derived.Test.YtlodaeoikkjbkaaDoorAn2
import Derived.Test.YtlodaeoikkjbkaaDoorMgG
import Derived.Test.YtlodaeoikkjbkaaDoorNbI
import Derived.RangeFuncNested
namespace Go.Proofs.YtlodaeoikkjbkaaDoor
set_option maxRecDepth 100000
open Go.RowKit Go.Shelf

attribute [local go_sem] Oper.semAt_some

/-- The rows of the parts, in the order of their first vertices. -/
def fbR (fz : List Int) : List Int := (prN fz fz.length).map fun v => ((bitsN (fun w => decide (rch fz v w)) fz.length : Nat) : Int)
/-- The fibres, none where a graph is not antipodal. -/
noncomputable def fbL (zs : List Int) : List Int := if anB zs (dmX zs) then fbR (gaR zs (dmX zs)) else []
theorem fbL_yes {zs : List Int} (h : anB zs (dmX zs) = true) : fbL zs = fbR (gaR zs (dmX zs)) := by unfold fbL; rw [h]; rfl
theorem fbL_no {zs : List Int} (h : anB zs (dmX zs) = false) : fbL zs = [] := by unfold fbL; rw [h]; rfl
theorem los_all {zs : List Int} {F : Nat → Nat × Nat} {p : Nat} (h62 : zs.length ≤ 62) (hz : ∀ i, i < zs.length → (el zs i).toNat < 2 ^ zs.length) (hF : ∀ v, v < zs.length → RD zs v (F v)) (hp : PN zs.length F p) : (List.range p).map (fun k => lo (lfN zs.length F k)) = prN zs zs.length := by
  have key : ∀ k, k ≤ p → ∃ v, v ≤ zs.length ∧ PI zs F k v ∧ (List.range k).map (fun k => lo (lfN zs.length F k)) = prN zs v := by
    intro k
    induction k with
    | zero => exact fun _ => ⟨0, Nat.zero_le _, PI.start, rfl⟩
    | succ k ih =>
      intro hk
      obtain ⟨v, hv, hP, e⟩ := ih (by omega)
      obtain ⟨h1, h2, h3, h4⟩ := hP.next h62 hz hF (hp.2 k (by omega))
      refine ⟨_, h1, h4, ?_⟩
      rw [List.range_succ, List.map_append, e, h3]
      rfl
  obtain ⟨v, hv, hP, e⟩ := key p (Nat.le_refl _)
  rw [e, hP.last hp.1 hv]
theorem ptR_form {fz : List Int} {F : Nat → Nat × Nat} {p : Nat} (h62 : fz.length ≤ 62) (hz : ∀ i, i < fz.length → (el fz i).toNat < 2 ^ fz.length) (hF : ∀ v, v < fz.length → RD fz v (F v)) (hp : PN fz.length F p) {k : Nat} (hk : k < p) :
    ptR fz.length F k = bitsN (fun w => decide (rch fz (lo (lfN fz.length F k)) w)) fz.length := by
  apply Nat.eq_of_testBit_eq
  intro w
  rw [bitsN_testBit]
  rcases Nat.lt_or_ge w fz.length with hw | hw
  · rw [decide_eq_true hw, Bool.true_and]
    exact ptR_bit h62 hz hF hp hk hw
  · rw [decide_eq_false (by omega), Bool.false_and]
    exact Nat.testBit_lt_two_pow (Nat.lt_of_lt_of_le (ptR_lt h62 hz hF hp hk) (Nat.pow_le_pow_right (by decide) hw))
theorem rows_all {fz : List Int} {F : Nat → Nat × Nat} {p : Nat} (h62 : fz.length ≤ 62) (hz : ∀ i, i < fz.length → (el fz i).toNat < 2 ^ fz.length) (hF : ∀ v, v < fz.length → RD fz v (F v)) (hp : PN fz.length F p) :
    (List.range p).map (fun k => ((ptR fz.length F k : Nat) : Int)) = fbR fz := by
  unfold fbR
  rw [← los_all h62 hz hF hp, List.map_map]
  refine List.map_congr_left fun k hk => ?_
  rw [ptR_form h62 hz hF hp (List.mem_range.1 hk)]
  rfl
theorem natsV_ints (L : List Nat) : natsV L = (L.map fun x : Nat => (x : Int)).map (Value.int .i64) := by
  unfold natsV; rw [List.map_map]; rfl
theorem shl_one {v : Nat} (h : v ≤ 61) : IntKind.i64.wrap (2 ^ v) = ((2 ^ v : Nat) : Int) := by
  have h1 : (2 : Int) ^ v = ((2 ^ v : Nat) : Int) := by simp
  have h2 : 2 ^ v ≤ 2305843009213693952 := Nat.le_trans (Nat.pow_le_pow_right (by decide) h) (by decide)
  rw [h1]
  generalize 2 ^ v = t at h2 ⊢
  exact IntWalk.i64_in _ ⟨by omega, by omega⟩
/-- What a row of the far graph says of a member of a part. -/
def okV (fz : List Int) (P v : Nat) : Prop := (el fz v).toNat = anot P (2 ^ v)

theorem kept_rowP {W W' : World} {row : Option Nat} {B k : Nat} {o : Obj} (hg : W.grownBy W' row) (hr : ∀ r, row = some r → B ≤ r ∧ ∃ o : Obj, W.heap[r]? = some o ∧ o.isCells = false) (hk : k < B) (h : W.heap[k]? = some o) : W'.heap[k]? = some o :=
  (hg.block k (Array.getElem?_eq_some_iff.1 h).1 (fun e => by have := (hr k e.symm).1; omega)).trans h
theorem grown_setP3 (W : World) (k i : Nat) (x : Value) : W.grownBy (W.setCell ⟨k, i, none⟩ x) (some k) := grown_set ⟨rfl, rfl, rfl, Nat.le_refl _, fun _ _ _ => rfl⟩ _ i x
theorem own_slF {w : World} {B : Nat} {u : Value} {L : List Int} (h : Own w B u L) : ∃ a l c, u = .slice a l c := by
  rcases h.form with ⟨rfl, _⟩ | ⟨g, cap, rfl, _⟩
  · exact ⟨_, _, _, rfl⟩
  · exact ⟨_, _, _, rfl⟩
theorem own_ne {u : Value} {j : Nat} (h : ∀ k, u.ownBlock = some k → k ≠ j) : u.ownBlock = none ∨ u.ownBlock ≠ some j := by
  cases e : u.ownBlock with
  | none => exact .inl rfl
  | some k => exact .inr fun e2 => h k e (Option.some.inj e2)
theorem mem_memL {Q : Nat} (y : Mem Q) : y ∈ memL Q := by
  have h : y.1 ∈ (memL Q).unattach := by rw [show (memL Q).unattach = mem Q from memL_val Q]; exact y.2
  obtain ⟨h1, h2⟩ := List.mem_unattach.1 h
  exact h2
theorem keeps_of_below {B : Nat} {X X' : World} (h : Below X.heap.size X X') : KeepsFrom B X X' := ⟨h.size, fun k _ _ ho _ => (h.block k (Array.getElem?_eq_some_iff.1 ho).1).trans ho⟩
/-- A box of one cell. -/
def BxF (W : World) (k : Nat) (t : TypeId) (v : Value) : Prop := W.heap[k]? = some (.cells #[v] t (0, 0))
theorem BxF.cell {W : World} {k : Nat} {t : TypeId} {v : Value} (h : BxF W k t v) : W.cell? ⟨k, 0, none⟩ = some v := by rw [cell_of_row W k 0 _ _ _ h]; rfl
theorem BxF.frozen {W : World} {k : Nat} {t : TypeId} {v : Value} (h : BxF W k t v) : W.frozen? ⟨k, 0, none⟩ = false := frozen_of_row W k 0 _ _ h
theorem BxF.lt {W : World} {k : Nat} {t : TypeId} {v : Value} (h : BxF W k t v) : k < W.heap.size := (Array.getElem?_eq_some_iff.1 h).1
theorem BxF.set {W : World} {k : Nat} {t : TypeId} {v : Value} (h : BxF W k t v) (x : Value) : BxF (W.setCell ⟨k, 0, none⟩ x) k t x := by
  have := heap_setCell_same W k 0 #[v] t x h
  simpa [BxF] using this
theorem loadVarF {P : Program} {ty : TypeId} {d : TypeDesc} (hu : P.underlying ty = some d) (hd : (match d with | .struct _ | .array _ _ => true | _ => false) = false) (w : World) (a : Addr) (v : Value) (hc : w.cell? a = some v) : (loadVar ty a).run P w = .ok v w := by
  have hagg : (isAgg ty).run P w = .ok false w := by
    unfold isAgg
    simp [underlying, hu, go_sem]
    cases d <;> simp_all [go_sem]
  unfold loadVar
  simp [Sem.run_bind, hagg, go_sem, hc]
theorem results_2F {P : Program} {fn : Func} {p u : Tmp} {ty tu : TypeId} {d e : TypeDesc} (h : fn.results = #[.cell p ty, .cell u tu]) (tmps : Array Value) (w : World) (g k : Nat) (x y : Value)
    (hp : tmps.getD p undef = .pointer (some ⟨g, 0, none⟩)) (hq : tmps.getD u undef = .pointer (some ⟨k, 0, none⟩)) (hx : w.cell? ⟨g, 0, none⟩ = some x) (hy : w.cell? ⟨k, 0, none⟩ = some y)
    (hu : P.underlying ty = some d) (hd : (match d with | .struct _ | .array _ _ => true | _ => false) = false) (hv : P.underlying tu = some e) (he : (match e with | .struct _ | .array _ _ => true | _ => false) = false) :
    (results fn tmps).run P w = .ok (.tuple #[x, y]) w := by
  have hp' : tmps[p]?.getD undef = .pointer (some ⟨g, 0, none⟩) := by simpa using hp
  have hq' : tmps[u]?.getD undef = .pointer (some ⟨k, 0, none⟩) := by simpa using hq
  simp only [results, h]
  simp [hp', hq', asAddr, loadVarF hu hd w _ _ hx, loadVarF hv he w _ _ hy]

set_option maxHeartbeats 6400000 in
theorem fib_in (b off cap : Nat) (zs : List Int) (w : World) (hb : b < w.heap.size) (hc : Cells w b off zs) (hg : isG zs.length zs = true) (hcn : connB zs = true) (h2d : ¬ dmX zs < 2) (hT : Tab w) :
    CallsIn Fence.wide 9 Tryd.prog 54 #[.agg #[.int .i64 zs.length, .slice (some ⟨b, off, none⟩) zs.length cap]] w fun e w' => (∃ u, e = .returned (.tuple #[u, .int .i64 0]) ∧ Own w' w.heap.size u (fbL zs)) ∧ Below w.heap.size w w' := by
  obtain ⟨g1, g2, -, -, -⟩ := isG_parts hg
  have h62 : zs.length ≤ 62 := by omega
  obtain ⟨Wz, hWz⟩ : ∃ Wz, Wz = ((w.alloc (.cells #[.int .i64 zs.length, .slice (some ⟨b, off, none⟩) zs.length cap] 28)).alloc (.cells #[.slice none 0 0] 22)).alloc (.cells #[.int .i64 0] 2) := ⟨_, rfl⟩
  have sz : Wz.heap.size = w.heap.size + 3 := by rw [hWz]; simp
  have D0 : Below w.heap.size w Wz := by rw [hWz]; exact (((Below.refl _ _).alloc (Nat.le_refl _) _).alloc (by simp) _).alloc (by simp; omega) _
  have HG0 : Hid (Wz.heap[w.heap.size]? = some (.cells #[.int .i64 zs.length, .slice (some ⟨b, off, none⟩) zs.length cap] 28 (0, 0))) := by show _ = _; rw [hWz]; exact heap_old_at (heap_old_at (World.alloc_heap_new w _) _) _
  have X10 : Hid (BxF Wz (w.heap.size + 1) 22 (.slice none 0 0)) := by show BxF _ _ _ _; rw [hWz]; exact heap_old_at (heap_new_at _ _ _ (by simp)) _
  have X20 : Hid (BxF Wz (w.heap.size + 2) 2 (.int .i64 0)) := by show BxF _ _ _ _; rw [hWz]; exact heap_new_at _ _ _ (by simp)
  have hdm := implDm_any zs.length (.slice (some ⟨b, off, none⟩) zs.length cap) zs Wz (.inr ⟨b, off, cap, rfl, Nat.lt_of_lt_of_le hb D0.size, hc.below D0 hb⟩) (by omega) (hT.belowAll D0)
  rw [show dmD zs.length zs = dmX zs by unfold dmD dmX; rw [hg, hcn]; rfl, show dmC zs.length zs = 0 by unfold dmC; rw [hg, hcn]; rfl] at hdm
  obtain ⟨fz, hfz⟩ : ∃ fz, fz = gaR zs (dmX zs) := ⟨_, rfl⟩
  have hfl : fz.length = zs.length := by rw [hfz]; exact gaR_length' _ _
  have hfg : isG fz.length fz = true := by rw [hfl, hfz]; exact gaR_isG hg _
  have hf62 : fz.length ≤ 62 := by omega
  have hflt : ∀ i, i < fz.length → (el fz i).toNat < 2 ^ fz.length := by rw [hfz]; exact ga_lt
  have hf0 : ∀ i, i < fz.length → 0 ≤ el fz i := fun i hi => by
    rw [hfl] at hi
    rw [hfz]; unfold gaR; rw [el_rowsF _ _ _ hi]; exact Int.natCast_nonneg _
  obtain ⟨F, hF⟩ : ∃ F : Nat → Nat × Nat, ∀ v, v < fz.length → RD fz v (F v) := by
    refine ⟨fun v => if h : v < fz.length then Classical.choose (RD.ex h hf62 hflt) else (0, 0), fun v hv => ?_⟩
    simp only [dif_pos hv]
    exact Classical.choose_spec (RD.ex hv hf62 hflt)
  obtain ⟨p, hpn, hp⟩ := PN.ex hf62 hflt hF
  have HALL := Lib.hid (rows_all hf62 hflt hF hp)
  have HPL : Hid (∀ k, k < p → ptR fz.length F k < 2 ^ 62) := fun k hk => Nat.lt_of_lt_of_le (ptR_lt hf62 hflt hF hp hk) (Nat.pow_le_pow_right (by decide) hf62)
  have HPW : Hid (∀ k, k < p → ∀ v, v ∈ mem (ptR fz.length F k) → v < zs.length ∧ (ptR fz.length F k).testBit v = true) := fun k hk v hv => by
    have h1 := mem_iff.1 hv
    have h3 := bit_lt (ptR_lt hf62 hflt hF hp hk) h1.2
    exact ⟨by omega, h1.2⟩
  obtain ⟨r, hr⟩ : ∃ r, r = anB zs (dmX zs) := ⟨_, rfl⟩
  have HNO : Hid (∀ k, k < p → ∀ v, v ∈ mem (ptR fz.length F k) → ¬ okV fz (ptR fz.length F k) v → r = false) := fun k hk v hv hne => by
    obtain ⟨h1, h3⟩ := HPW.out k hk v hv
    unfold okV at hne
    rw [hr]
    rw [hfl] at hF hp h3 hne
    rw [hfz] at hF hne
    exact an_fail hg hF hp hk h1 h3 hne
  have HYES : Hid ((∀ k, k < p → ∀ v, v ∈ mem (ptR fz.length F k) → okV fz (ptR fz.length F k) v) → r = true) := fun h => by
    rw [hr]
    refine anB_yes ?_
    have hd0 : 0 < dmX zs := by omega
    have hF' := hF; have hp' := hp; have h' := h
    rw [hfl] at hF' hp' h'
    rw [hfz] at hF' h'
    refine an_all hg hd0 hF' hp' fun k hk v hv hbv => ?_
    exact h' k hk v (mem_iff.2 ⟨by omega, hbv⟩)
  have HLY : Hid (r = true → fbL zs = fbR fz) := fun h => by rw [fbL_yes (by rw [← hr]; exact h), hfz]
  have HLN : Hid (r = false → fbL zs = []) := fun h => fbL_no (by rw [← hr]; exact h)
  have HAT : Hid (∀ W, Below w.heap.size w W → Calls Tryd.prog 46 #[.agg #[.int .i64 zs.length, .slice (some ⟨b, off, none⟩) zs.length cap], .int .i64 (dmX zs)] W fun e w' => GRet W.heap.size fz.length fz e w' ∧ Below W.heap.size W w') := fun W hW => by
    have := implAt_some b off cap zs (dmX zs) W (Nat.lt_of_lt_of_le hb hW.size) (hc.below hW hb) hg (hT.belowAll hW)
    rw [hfl, hfz]; exact this
  have HT := Lib.hid hT
  have hTl := hT.lt
  have HF := Lib.hid hF; have HPN := Lib.hid hp; have HFG := Lib.hid hfg; have HF0 := Lib.hid hf0; have HFLT := Lib.hid hflt
  have HFL := Lib.hid hfl
  have hp62 : p ≤ 62 := by omega
  obtain ⟨i0, hi, hz0, hz1, hz2⟩ := info_parts mk_info
  have HI := Lib.hid hi; have HI0 := Lib.hid hz0; have HI1 := Lib.hid hz1; have HI2 := Lib.hid hz2
  have HD0 := Lib.hid D0
  have s3 : w.heap.size + 3 ≤ Wz.heap.size := by omega
  obtain ⟨x0, x1, -, -⟩ := two_cells HG0.out
  have hdn : ¬ dmX zs < 2 := h2d
  generalize dmX zs = d at *
  generalize dmR zs.length zs = dr at *
  clear hc hg hcn hT hF hp hfg hf0 hflt hfz hr hi hz0 hz1 hz2 D0 hfl sz h2d
  refine callsIn_of_wp_marks Tryd.func54 rfl trivial ?_ rfl
  simp only [Tryd.ntmps54, List.size_toArray, List.length_cons, List.length_nil, Nat.reduceAdd, Nat.reduceSub, Array.replicate_succ, Array.replicate_zero, List.push_toArray, List.append_toArray, List.nil_append, List.cons_append]
  gi_upto_region 1 with fail
  refine at_world (w' := Wz) ?_ (by rw [hWz])
  clear hWz
  gi_upto_region 4 with (refine ⟨trivial, ?_⟩; gi_at_call 74; refine (callsIn_wide.2 hdm).mono ?_; rintro e w1 ⟨rfl, hb1⟩)
  have HB1 := Lib.hid (HD0.out.trans (hb1.mono HD0.out.size))
  have HG1 := Lib.hid ((hb1.block w.heap.size (by omega)).trans HG0.out)
  have X11 : Hid (BxF w1 (w.heap.size + 1) 22 (.slice none 0 0)) := (hb1.block _ (by omega)).trans X10.out
  have X21 : Hid (BxF w1 (w.heap.size + 2) 2 (.int .i64 0)) := (hb1.block _ (by omega)).trans X20.out
  have s1 : w.heap.size + 3 ≤ w1.heap.size := Nat.le_trans s3 hb1.size
  clear x0 x1 hb1 hdm HG0 X10 X20
  obtain ⟨x0, x1, -, -⟩ := two_cells HG1.out
  gi_upto_region 5 with (refine ⟨trivial, ?_⟩; gi_at_call 46; refine (callsIn_wide.2 (HAT.out _ HB1.out)).mono ?_; rintro e w2 ⟨⟨gF, rfl, hBF, hgF⟩, hb2⟩)
  have hgF2 := hBF.lt
  obtain ⟨Wf, hWf⟩ : ∃ Wf, Wf = w2.alloc (.cells #[.int .i64 fz.length, .slice (some ⟨gF, 0, none⟩) fz.length fz.length] 28) := ⟨_, rfl⟩
  refine at_world (w' := Wf) ?_ (by rw [hWf])
  have hbf : Below w2.heap.size w2 Wf := by rw [hWf]; exact (Below.refl _ _).alloc (Nat.le_refl _) _
  have sf : Wf.heap.size = w2.heap.size + 1 := by rw [hWf]; simp
  have XFf : Wf.heap[w2.heap.size]? = some (.cells #[.int .i64 fz.length, .slice (some ⟨gF, 0, none⟩) fz.length fz.length] 28 (0, 0)) := by rw [hWf]; exact World.alloc_heap_new w2 _
  clear hWf x0 x1
  gi_upto_region 6 with fail
  obtain ⟨Wb, hWb⟩ : ∃ Wb, Wb = Wf.alloc (.cells #[.slice none 0 0] 22) := ⟨_, rfl⟩
  refine at_world (w' := Wb) ?_ (by rw [hWb])
  have hbb : Below Wf.heap.size Wf Wb := by rw [hWb]; exact (Below.refl _ _).alloc (Nat.le_refl _) _
  have sb : Wb.heap.size = w2.heap.size + 2 := by rw [hWb]; simp [sf]
  have XBb : Wb.heap[w2.heap.size + 1]? = some (.cells #[.slice none 0 0] 22 (0, 0)) := by rw [hWb, ← sf]; exact World.alloc_heap_new Wf _
  have XFb : Wb.heap[w2.heap.size]? = some (.cells #[.int .i64 fz.length, .slice (some ⟨gF, 0, none⟩) fz.length fz.length] 28 (0, 0)) := (hbb.block _ (by omega)).trans XFf
  clear hWb
  obtain ⟨y0, y1, -, -⟩ := two_cells XFb
  gi_wp2_with (refine ⟨trivial, ?_⟩; gi_at_call 75; refine (callsIn_wide.2 (partsIn_any _ _ _)).mono ?_; rintro e w' ⟨rfl, rfl⟩)
  obtain ⟨Wm, hWm⟩ : ∃ Wm, Wm = Wb.alloc (.cells #[.int .i64 fz.length, .slice (some ⟨gF, 0, none⟩) fz.length fz.length] 28) := ⟨_, rfl⟩
  refine at_world (w' := Wm) ?_ (by rw [hWm])
  have hbm : Below Wb.heap.size Wb Wm := by rw [hWm]; exact (Below.refl _ _).alloc (Nat.le_refl _) _
  have sm : Wm.heap.size = w2.heap.size + 3 := by rw [hWm]; simp [sb]
  have XPm : Wm.heap[w2.heap.size + 2]? = some (.cells #[.int .i64 fz.length, .slice (some ⟨gF, 0, none⟩) fz.length fz.length] 28 (0, 0)) := by rw [hWm, ← sb]; exact World.alloc_heap_new Wb _
  clear hWm y0 y1
  have hb2m : Below w2.heap.size w2 Wm := (hbf.trans (hbb.mono (by omega))).trans (hbm.mono (by omega))
  have hBm : Blk Wm gF fz := hBF.belowAll hb2m
  have HB2 := Lib.hid (HB1.out.trans (hb2.mono HB1.out.size))
  have HBm := Lib.hid (HB2.out.trans (hb2m.mono HB2.out.size))
  have XFm : Wm.heap[w2.heap.size]? = some (.cells #[.int .i64 fz.length, .slice (some ⟨gF, 0, none⟩) fz.length fz.length] 28 (0, 0)) := (hbm.block _ (by omega)).trans XFb
  have XBm : BxF Wm (w2.heap.size + 1) 22 (.slice none 0 0) := (hbm.block _ (by omega)).trans XBb
  have s2 : w1.heap.size ≤ w2.heap.size := hb2.size
  have X1m : BxF Wm (w.heap.size + 1) 22 (.slice none 0 0) := (hb2m.block _ (by omega)).trans ((hb2.block _ (by omega)).trans X11.out)
  have X2m : BxF Wm (w.heap.size + 2) 2 (.int .i64 0) := (hb2m.block _ (by omega)).trans ((hb2.block _ (by omega)).trans X21.out)
  have HRX : Hid (∀ W, (∀ k, k < Wm.heap.size → k ≠ w2.heap.size + 1 → W.heap[k]? = Wm.heap[k]?) → W.cell? ⟨w2.heap.size, 1, none⟩ = some (.slice (some ⟨gF, 0, none⟩) fz.length fz.length) ∧ (∀ v, v < fz.length → W.cell? ⟨gF, v, none⟩ = some (.int .i64 (el fz v))) ∧ BxF W (w.heap.size + 1) 22 (.slice none 0 0) ∧ BxF W (w.heap.size + 2) 2 (.int .i64 0)) := fun W hW => by
    have h1 := (hW w2.heap.size (by omega) (by omega)).trans XFm
    have h3 : Blk W gF fz := (hW gF (by omega) (by omega)).trans hBm
    exact ⟨(two_cells h1).2.1, fun v hv => h3.cell hv, (hW _ (by omega) (by omega)).trans X1m, (hW _ (by omega) (by omega)).trans X2m⟩
  have hst := parts_stops 8 (by omega) (w2.heap.size + 2) w2.heap.size gF 0 fz.length fz F p HFG.out HF.out HPN.out Wm XPm hgF2 (fun i hi => by rw [Nat.zero_add]; exact hBm.cell hi) (HT.out.belowAll HBm.out) (by omega) (by omega)
  obtain ⟨f1, hf1⟩ : ∃ f1 : Fin p → Nat, f1 = fun x => (F (lo (lfN fz.length F x.1))).1 := ⟨_, rfl⟩
  obtain ⟨f2, hf2⟩ : ∃ f2 : Fin p → Nat, f2 = fun x => (F (lo (lfN fz.length F x.1))).2 := ⟨_, rfl⟩
  rw [show (fun x : Fin p => (#[.int .i64 ((F (lo (lfN fz.length F x.1))).1 : Nat), .int .i64 ((F (lo (lfN fz.length F x.1))).2 : Nat)] : Array Value)) = fun x => #[.int .i64 (f1 x), .int .i64 (f2 x)] by rw [hf1, hf2]] at hst
  obtain ⟨P, hP⟩ : ∃ P : Fin p → Nat, P = fun x => ptR fz.length F x.1 := ⟨_, rfl⟩
  have HOR : Hid (∀ x : Fin p, f1 x ||| f2 x = P x) := fun x => by rw [hf1, hf2, hP]; rfl
  have HP62 : Hid (∀ x : Fin p, P x < 2 ^ 62) := fun x => by rw [hP]; exact HPL.out x.1 x.2
  have HPWx : Hid (∀ (x : Fin p) (v : Nat), v ∈ mem (P x) → v < zs.length) := fun x v hv => by rw [hP] at hv; exact (HPW.out x.1 x.2 v hv).1
  have HNOx : Hid (∀ (x : Fin p) (v : Nat), v ∈ mem (P x) → ¬ okV fz (P x) v → r = false) := fun x v hv h => by rw [hP] at hv h; exact HNO.out x.1 x.2 v hv h
  have HYESx : Hid ((∀ x : Fin p, ∀ v, v ∈ mem (P x) → okV fz (P x) v) → r = true) := fun h => HYES.out fun k hk v hv => by have := h ⟨k, hk⟩ v; rw [hP] at this; exact this hv
  have HALLx : Hid ((List.finRange p).map (fun x => ((P x : Nat) : Int)) = fbR fz) := by show _ = _; rw [hP, ← HALL.out]; exact fin_mapP p fun k => ((ptR fz.length F k : Nat) : Int)
  have HF12 : Hid (∀ x : Fin p, f1 x < 2 ^ 62 ∧ f2 x < 2 ^ 62) := fun x => by
    have h1 : f1 x ≤ f1 x ||| f2 x := Nat.left_le_or
    have h3 : f2 x ≤ f1 x ||| f2 x := Nat.right_le_or
    rw [HOR.out x] at h1 h3
    have := HP62.out x
    omega
  have hfl := HFL.out
  have HXB := Lib.hid XBm
  clear hf1 hf2 hP hb2 hbf hbb hbm hb2m hBF hBm XFf XBb XFb XPm XFm XBm X1m X2m HPL HPW HNO HYES HALL HF HPN HG1 X11 X21 HAT sf sb
  refine wpIn_rangeFunc_ownH (α := Fin p) rfl (by omega) (gf := 85) (lb := #[.pointer (some ⟨w2.heap.size + 2, 0, none⟩)]) rfl trivial (enters_of Tryd.func85 (by kernel_rfl) rfl)
    hst KpG.tr (KpG.put (by omega) (by omega)) (Below.refl _ _) (fun _ => rfl)
    (fun pre W' => ∃ u, Hid (BxF W' (w2.heap.size + 1) 22 u) ∧ Hid (Own W' Wm.heap.size u (pre.map fun x : Fin p => ((P x : Nat) : Int))) ∧ Hid (∀ k, k < Wm.heap.size → k ≠ w2.heap.size + 1 → W'.heap[k]? = Wm.heap[k]?) ∧ Hid (∀ x : Fin p, x ∈ pre → ∀ v, v ∈ mem (P x) → okV fz (P x) v) ∧ Below w.heap.size w W' ∧ Wm.heap.size ≤ W'.heap.size)
    (fun c _ W' => c = .ret ∧ r = false ∧ Hid (BxF W' (w.heap.size + 1) 22 (.slice none 0 0)) ∧ Hid (BxF W' (w.heap.size + 2) 2 (.int .i64 0)) ∧ Below w.heap.size w W' ∧ Wm.heap.size ≤ W'.heap.size)
    ?hI ?hIx ?h0c
    (fun x a' _ => ∃ (u4 u5 u6 u11 u12 u13 u14 u15 u16 u17 u18 u19 u20 u21 u22 u23 u24 u25 u26 u27 u28 u29 u30 u31 u32 u33 u34 u35 u36 u37 u38 u39 u40 u41 u42 u43 u44 u45 u46 u47 u48 u49 u50 u51 u52 u53 : Value), a' = { tmps := #[.agg #[.int .i64 zs.length, .slice (some ⟨b, off, none⟩) zs.length cap], .pointer (some ⟨w.heap.size, 0, none⟩), .pointer (some ⟨w.heap.size + 1, 0, none⟩), .pointer (some ⟨w.heap.size + 2, 0, none⟩), u4, u5, u6, .pointer (some ⟨w2.heap.size, 0, none⟩), .pointer (some ⟨w2.heap.size + 1, 0, none⟩), .int .i64 (f1 x), .int .i64 (f2 x), u11, u12, u13, u14, u15, u16, u17, u18, u19, u20, u21, u22, u23, u24, u25, u26, u27, u28, u29, u30, u31, u32, u33, u34, u35, u36, u37, u38, u39, u40, u41, u42, u43, u44, u45, u46, u47, u48, u49, u50, u51, u52, u53], defers := [] })
    (fun _ _ _ _ _ _ hs _ _ => hs) ?assign ?body ?done ?stop
  case hI =>
    rintro pre X Y row ⟨u, h1, h2, h3, h4, h5, h6⟩ hg hr
    exact ⟨u, kept_rowP hg hr (by omega) h1.out, h2.out.kept hg (row_far h2.out fun r e => (hr r e).2), fun k hk hne => (hg.block k (by omega) (fun e => by have := (hr k e.symm).1; omega)).trans (h3.out k hk hne), h4, h5.grown hg h5.size (fun k e => by have := (hr k e).1; omega), Nat.le_trans h6 hg.size⟩
  case hIx =>
    rintro c pre X Y row ⟨rfl, h0, h1, h2, h3, h4⟩ hg hr
    exact ⟨rfl, h0, kept_rowP hg hr (by omega) h1.out, kept_rowP hg hr (by omega) h2.out, h3.grown hg h3.size (fun k e => by have := (hr k e).1; omega), Nat.le_trans h4 hg.size⟩
  case h0c => exact ⟨_, HXB.out, Own.nil _ _, fun _ _ _ => rfl, (fun x hx => absurd hx (by simp)), HBm.out, Nat.le_refl _⟩
  case assign =>
    rintro l pre x W K hI hK
    gi_wp2
    exact hK _ _ (KeepsFrom.refl _ _) ⟨Below.refl _ _, rfl⟩ hI ⟨_, _, _, _, _, _, _, _, _, _, _, _, _, _, _, _, _, _, _, _, _, _, _, _, _, _, _, _, _, _, _, _, _, _, _, _, _, _, _, _, _, _, _, _, _, _, rfl⟩
  case body =>
    rintro l pre x a' W5 hl5 ⟨rec, hrec⟩ ⟨u, hbx, hown, hkp, hck, hB5, hs5⟩ ⟨u4, u5, u6, u11, u12, u13, u14, u15, u16, u17, u18, u19, u20, u21, u22, u23, u24, u25, u26, u27, u28, u29, u30, u31, u32, u33, u34, u35, u36, u37, u38, u39, u40, u41, u42, u43, u44, u45, u46, u47, u48, u49, u50, u51, u52, u53, rfl⟩ hlen
    obtain ⟨fb1, fb2⟩ := HF12.out x
    have hor := or_i64 (f1 x) (f2 x) (by omega) (by omega)
    rw [HOR.out x] at hor
    have hPx := HP62.out x
    have HWX := Lib.hid (HPWx.out x)
    have HNX := Lib.hid (HNOx.out x)
    have HMAP : Hid ((pre ++ [x]).map (fun x : Fin p => ((P x : Nat) : Int)) = pre.map (fun x : Fin p => ((P x : Nat) : Int)) ++ [((P x : Nat) : Int)]) := by show _ = _; rw [List.map_append]; rfl
    have HCKS : Hid ((∀ v, v ∈ mem (P x) → okV fz (P x) v) → ∀ y : Fin p, y ∈ pre ++ [x] → ∀ v, v ∈ mem (P y) → okV fz (P y) v) := fun h y hy => by
      rcases List.mem_append.1 hy with hy | hy
      · exact hck.out y hy
      · obtain rfl : y = x := by simpa using hy
        exact h
    have hpl : pre.length ≤ 62 := by omega
    obtain ⟨L, hL⟩ : ∃ L, L = pre.map (fun x : Fin p => ((P x : Nat) : Int)) := ⟨_, rfl⟩
    have hLl : L.length ≤ 62 := by rw [hL, List.length_map]; exact hpl
    rw [← hL] at hown HMAP
    clear hL hlen hpl
    generalize P x = Q at *
    gi_upto_region 10 with fail
    obtain ⟨Wx, hWx⟩ : ∃ Wx, Wx = W5.alloc (.cells #[.int .i64 (Q : Nat)] 2) := ⟨_, rfl⟩
    refine at_world (w' := Wx) ?_ (by rw [hWx])
    have hbX : Below W5.heap.size W5 Wx := by rw [hWx]; exact (Below.refl _ _).alloc (Nat.le_refl _) _
    have sx : Wx.heap.size = W5.heap.size + 1 := by rw [hWx]; simp
    have XXx : BxF Wx W5.heap.size 2 (.int .i64 (Q : Nat)) := by rw [hWx]; exact World.alloc_heap_new W5 _
    have cx := XXx.cell
    clear hWx
    gi_wp2_with (refine ⟨trivial, ?_⟩; gi_at_call 42; refine (callsIn_wide.2 (membersOf_any _ _)).mono ?_; rintro e w' ⟨rfl, rfl⟩)
    obtain ⟨Z, hZ⟩ : ∃ Z, Z = Wx.alloc (.cells #[.int .i64 (Q : Nat)] 2) := ⟨_, rfl⟩
    refine at_world (w' := Z) ?_ (by rw [hZ])
    have hbZ : Below Wx.heap.size Wx Z := by rw [hZ]; exact (Below.refl _ _).alloc (Nat.le_refl _) _
    have sZ : Z.heap.size = W5.heap.size + 2 := by rw [hZ]; simp [sx]
    have hcZ : Z.cell? ⟨W5.heap.size + 1, 0, none⟩ = some (.int .i64 (Q : Nat)) := by rw [hZ, ← sx]; have := World.cell?_alloc_new (w := Wx) #[.int .i64 (Q : Nat)] 2 0; exact this
    have B5Z : Below W5.heap.size W5 Z := hbX.trans (hbZ.mono (by omega))
    have XXZ : BxF Z W5.heap.size 2 (.int .i64 (Q : Nat)) := (hbZ.block _ (by omega)).trans XXx
    have hrecZ : Z.heap[l]? = some (.loop rec) := (B5Z.block l (Array.getElem?_eq_some_iff.1 hrec).1).trans hrec
    have hTZ : Tab Z := HT.out.belowAll (hB5.trans (B5Z.mono hB5.size))
    have HKZ : Hid (∀ k, k < Wm.heap.size → k ≠ w2.heap.size + 1 → Z.heap[k]? = Wm.heap[k]?) := fun k hk hne => (B5Z.block k (by omega)).trans (hkp.out k hk hne)
    have HB5Z := Lib.hid B5Z
    clear hZ cx XXx hbX hbZ hrec
    refine wpIn_rangeFunc_ownN (l₀ := l) (r₀ := rec) rfl hrecZ (by omega) (gf := 67) (lb := #[.pointer (some ⟨W5.heap.size + 1, 0, none⟩)]) rfl trivial (enters_of Tryd.func67 (by kernel_rfl) rfl)
      ((members_stops 6 (by omega) (W5.heap.size + 1) w.heap.size Q (by omega) Z (by omega) hcZ hTZ (by omega)).inRound l) belowK_t (belowK_b (by omega)) (Below.refl _ _) (fun _ => rfl)
      (fun pre' X => Hid (∀ v : Mem Q, v ∈ pre' → okV fz Q v.1) ∧ Hid (∀ k, k < Z.heap.size → X.heap[k]? = Z.heap[k]?) ∧ Below W5.heap.size W5 X ∧ Z.heap.size ≤ X.heap.size)
      (fun c _ X => c = .ret ∧ r = false ∧ Hid (BxF X (w.heap.size + 1) 22 (.slice none 0 0)) ∧ Hid (BxF X (w.heap.size + 2) 2 (.int .i64 0)) ∧ Below w.heap.size w X ∧ Hid (KeepsFrom Wm.heap.size W5 X) ∧ Wm.heap.size ≤ X.heap.size)
      ?hI2 ?hIx2 ?h02
      (fun v a' _ => ∃ (u4 u5 u6 u9 u10 u13 u14 u15 u16 u17 u18 u19 u20 u21 u22 u23 u24 u25 u26 u27 u28 u29 u30 u31 u32 u33 u34 u35 u36 u37 u38 u39 u40 u41 u42 u43 u44 u45 u46 u47 u48 u49 u50 u51 u52 u53 : Value), a' = { tmps := #[.agg #[.int .i64 zs.length, .slice (some ⟨b, off, none⟩) zs.length cap], .pointer (some ⟨w.heap.size, 0, none⟩), .pointer (some ⟨w.heap.size + 1, 0, none⟩), .pointer (some ⟨w.heap.size + 2, 0, none⟩), u4, u5, u6, .pointer (some ⟨w2.heap.size, 0, none⟩), .pointer (some ⟨w2.heap.size + 1, 0, none⟩), u9, u10, .pointer (some ⟨W5.heap.size, 0, none⟩), .int .i64 v.1, u13, u14, u15, u16, u17, u18, u19, u20, u21, u22, u23, u24, u25, u26, u27, u28, u29, u30, u31, u32, u33, u34, u35, u36, u37, u38, u39, u40, u41, u42, u43, u44, u45, u46, u47, u48, u49, u50, u51, u52, u53], defers := [] })
      (fun _ _ _ _ _ _ hs _ _ => hs) ?assign2 ?body2 ?done2 ?stop2
    case hI2 =>
      rintro pre' X Y row ⟨q1, q2, q3, q4⟩ hg hr
      exact ⟨q1, fun k hk => (hg.block k (by omega) (fun e => by have := (hr k e.symm).1; omega)).trans (q2.out k hk), q3.grown hg (by omega) (fun k e => by have := (hr k e).1; omega), Nat.le_trans q4 hg.size⟩
    case hIx2 =>
      rintro c pre' X Y row ⟨rfl, h0, h1, h2, h3, h4, h5⟩ hg hr
      exact ⟨rfl, h0, kept_rowP hg hr (by omega) h1.out, kept_rowP hg hr (by omega) h2.out, h3.grown hg h3.size (fun k e => by have := (hr k e).1; omega), ownFrom_keepsFrom (by omega) () X Y row h4.out hg hr, Nat.le_trans h5 hg.size⟩
    case h02 => exact ⟨(fun v hv => absurd hv (by simp)), fun _ _ => rfl, HB5Z.out, Nat.le_refl _⟩
    case assign2 =>
      rintro l2 pre' v X K hI hK
      gi_wp2
      exact hK _ _ (KeepsFrom.refl _ _) (Below.refl _ _) hI ⟨_, _, _, _, _, _, _, _, _, _, _, _, _, _, _, _, _, _, _, _, _, _, _, _, _, _, _, _, _, _, _, _, _, _, _, _, _, _, _, _, _, _, _, _, _, _, rfl⟩
    case body2 =>
      rintro l2 pre' v a' X hl2 _ ⟨q1, q2, q3, q4⟩ ⟨u4, u5, u6, u9, u10, u13, u14, u15, u16, u17, u18, u19, u20, u21, u22, u23, u24, u25, u26, u27, u28, u29, u30, u31, u32, u33, u34, u35, u36, u37, u38, u39, u40, u41, u42, u43, u44, u45, u46, u47, u48, u49, u50, u51, u52, u53, rfl⟩ hlen
      clear hlen
      obtain ⟨cfar, crow, k1, k2⟩ := HRX.out X (fun k hk hne => (q2.out k (by omega)).trans (HKZ.out k hk hne))
      have hvz := HWX.out v.1 v.2
      have cv := crow v.1 (by omega)
      have cx : X.cell? ⟨W5.heap.size, 0, none⟩ = some (.int .i64 (Q : Nat)) := BxF.cell ((q2.out _ (by omega)).trans XXZ)
      have z0 := HF0.out v.1 (by omega)
      have z1 := HFLT.out v.1 (by omega)
      have HK1 := Lib.hid k1
      have HK2 := Lib.hid k2
      have cr1 := k1.cell
      have cr2 := k2.cell
      have fr1 := k1.frozen
      have fr2 := k2.frozen
      have hand := andNot_nat Q (2 ^ v.1) (by omega)
      rw [show (((2 ^ v.1 : Nat) : Int)) = (2 : Int) ^ v.1 by simp] at hand
      have hshl := shl_one (v := v.1) (by omega)
      have hv0 : (0 : Int) ≤ v.1 := by omega
      have hvl : (v.1 : Int) < fz.length := by omega
      have hv62 : (v.1 : Int) < 62 := by omega
      obtain ⟨z, hz⟩ : ∃ z : Nat, el fz v.1 = (z : Int) := ⟨(el fz v.1).toNat, by omega⟩
      have HZV : Hid (okV fz Q v.1 ↔ z = anot Q (2 ^ v.1)) := by show _ ↔ _; unfold okV; rw [hz, Int.toNat_natCast]
      have HNV := Lib.hid (HNX.out v.1 v.2)
      rw [hz] at cv
      clear crow k1 k2 z0 z1 hz
      have hmx : Tryd.prog.follows Departure.mixedOrders = true := mixed
      gi_wp2_with fail
      rename_i hK0
      have HKK := Lib.hid hK0
      clear hK0
      refine region_round (fun w' => w'.cell? ⟨w2.heap.size, 1, none⟩ = some (.slice (some ⟨gF, 0, none⟩) fz.length fz.length) ∧ w'.cell? ⟨gF, v.1, none⟩ = some (.int .i64 (z : Nat)) ∧ w'.cell? ⟨W5.heap.size, 0, none⟩ = some (.int .i64 (Q : Nat))) hmx (by kernel_rfl) ⟨cfar, cv, cx⟩ (fun hHeld => ?_)
      show wpAnyH _ _ _ _ _ 10 (Array.replicate 10 false) _ _
      refine wpAnyH_take (i := 0) (v := .pointer (some ⟨w2.heap.size, 1, none⟩)) rfl (by kernel_rfl) (by kernel_rfl) (by kernel_rfl) (fun _ _ _ h => h) (Or.inl ⟨by rfl, fun Wt hSw => by go_split_ands; go_simp⟩) (by assumption) ?_
      simp only [List.getElem_toArray, List.getElem_cons_zero, Act.put, List.setIfInBounds_toArray, List.set_cons_zero, List.set_cons_succ]
      refine wpAnyH_take (i := 1) (v := .slice (some ⟨gF, 0, none⟩) fz.length fz.length) rfl (by kernel_rfl) (by kernel_rfl) (by kernel_rfl) (fun _ _ _ h => h) (Or.inl ⟨by rfl, fun Wt hSw => by go_split_ands; go_simp⟩) (by assumption) ?_
      simp only [List.getElem_toArray, List.getElem_cons_zero, List.getElem_cons_succ, Act.put, List.setIfInBounds_toArray, List.set_cons_zero, List.set_cons_succ]
      refine wpAnyH_take (i := 2) (v := .int .i64 v.1) rfl (by kernel_rfl) (by kernel_rfl) (by kernel_rfl) (fun _ _ _ h => h) (Or.inl ⟨by rfl, fun Wt hSw => by go_split_ands; go_simp⟩) (by assumption) ?_
      simp only [List.getElem_toArray, List.getElem_cons_zero, List.getElem_cons_succ, Act.put, List.setIfInBounds_toArray, List.set_cons_zero, List.set_cons_succ]
      refine wpAnyH_take (i := 3) (v := .pointer (some ⟨gF, v.1, none⟩)) rfl (by kernel_rfl) (by kernel_rfl) (by kernel_rfl) (fun _ _ _ h => h) (Or.inl ⟨by rfl, fun Wt hSw => by go_split_ands; go_simp⟩) (by assumption) ?_
      simp only [List.getElem_toArray, List.getElem_cons_zero, List.getElem_cons_succ, Act.put, List.setIfInBounds_toArray, List.set_cons_zero, List.set_cons_succ]
      refine wpAnyH_take (i := 4) (v := .int .i64 (z : Nat)) rfl (by kernel_rfl) (by kernel_rfl) (by kernel_rfl) (fun _ _ _ h => h) (Or.inl ⟨by rfl, fun Wt hSw => by go_split_ands; go_simp⟩) (by assumption) ?_
      simp only [List.getElem_toArray, List.getElem_cons_zero, List.getElem_cons_succ, Act.put, List.setIfInBounds_toArray, List.set_cons_zero, List.set_cons_succ]
      refine wpAnyH_take (i := 5) (v := .int .i64 (Q : Nat)) rfl (by kernel_rfl) (by kernel_rfl) (by kernel_rfl) (fun _ _ _ h => h) (Or.inl ⟨by rfl, fun Wt hSw => by go_split_ands; go_simp⟩) (by assumption) ?_
      simp only [List.getElem_toArray, List.getElem_cons_zero, List.getElem_cons_succ, Act.put, List.setIfInBounds_toArray, List.set_cons_zero, List.set_cons_succ]
      refine wpAnyH_take (i := 6) (v := .int .i64 v.1) rfl (by kernel_rfl) (by kernel_rfl) (by kernel_rfl) (fun _ _ _ h => h) (Or.inl ⟨by rfl, fun Wt hSw => by go_split_ands; go_simp⟩) (by assumption) ?_
      simp only [List.getElem_toArray, List.getElem_cons_zero, List.getElem_cons_succ, Act.put, List.setIfInBounds_toArray, List.set_cons_zero, List.set_cons_succ]
      refine wpAnyH_take (i := 7) (v := .int .i64 ((2 ^ v.1 : Nat) : Int)) rfl (by kernel_rfl) (by kernel_rfl) (by kernel_rfl) (fun _ _ _ h => h) (Or.inl ⟨by rfl, fun Wt hSw => by go_split_ands; go_simp⟩) (by assumption) ?_
      simp only [List.getElem_toArray, List.getElem_cons_zero, List.getElem_cons_succ, Act.put, List.setIfInBounds_toArray, List.set_cons_zero, List.set_cons_succ]
      refine wpAnyH_take (i := 8) (v := .int .i64 ((anot Q (2 ^ v.1) : Nat) : Int)) rfl (by kernel_rfl) (by kernel_rfl) (by kernel_rfl) (fun _ _ _ h => h) (Or.inl ⟨by rfl, fun Wt hSw => by go_split_ands; go_simp⟩) (by assumption) ?_
      simp only [List.getElem_toArray, List.getElem_cons_zero, List.getElem_cons_succ, Act.put, List.setIfInBounds_toArray, List.set_cons_zero, List.set_cons_succ]
      refine wpAnyH_take (i := 9) (v := .bool ((z : Int) != ((anot Q (2 ^ v.1) : Nat) : Int))) rfl (by kernel_rfl) (by kernel_rfl) (by kernel_rfl) (fun _ _ _ h => h) (Or.inl ⟨by rfl, fun Wt hSw => by go_split_ands; go_simp⟩) (by assumption) ?_
      simp only [List.getElem_toArray, List.getElem_cons_zero, List.getElem_cons_succ, Act.put, List.setIfInBounds_toArray, List.set_cons_zero, List.set_cons_succ]
      refine wpAnyH_done (by kernel_rfl) ?_ _
      refine HKK.out _ _ ?_
      clear HKK
      obtain ⟨wc, hwc⟩ : ∃ wc, wc = X.drew := ⟨_, rfl⟩
      refine at_world (w' := wc) ?_ (by rw [hwc])
      have hbd : Below X.heap.size X wc := by rw [hwc]; exact (Below.refl _ _).drew
      clear hwc
      have q2c : Hid (∀ k, k < Z.heap.size → wc.heap[k]? = Z.heap[k]?) := fun k hk => (hbd.block k (by omega)).trans (q2.out k hk)
      have q3c : Below W5.heap.size W5 wc := q3.trans (hbd.mono q3.size)
      have q4c : Z.heap.size ≤ wc.heap.size := Nat.le_trans q4 hbd.size
      have hb0 : Below w.heap.size X wc := hbd.mono (by omega)
      have hkf : KeepsFrom Z.heap.size X wc := keeps_of_below hbd
      have HKF := Lib.hid hkf
      by_cases hok : z = anot Q (2 ^ v.1)
      · have HO := Lib.hid (HZV.out.2 hok)
        have t1 : ((z : Int) != ((anot Q (2 ^ v.1) : Nat) : Int)) = false := by rw [hok]; simp
        have HQ1 : Hid (∀ y : Mem Q, y ∈ pre' ++ [v] → okV fz Q y.1) := fun y hy => by
          rcases List.mem_append.1 hy with hy | hy
          · exact q1.out y hy
          · obtain rfl : y = v := by simpa using hy
            exact HO.out
        rw [t1]
        clear hok HNV HZV HK1 HK2 cr1 cr2 fr1 fr2 hand hshl t1
        gi_wp2
        exact And.intro HKF.out (And.intro hb0 ⟨HQ1, q2c, q3c, q4c⟩)
      · have hr := Lib.hid (HNV.out (fun h => hok (HZV.out.1 h)))
        have t1 : ((z : Int) != ((anot Q (2 ^ v.1) : Nat) : Int)) = true := by rw [bne_iff_ne]; exact fun h => hok (Int.ofNat_inj.1 h)
        have q3w : Hid (Below w.heap.size w wc) := hB5.trans (q3c.mono hB5.size)
        have HKX : Hid (KeepsFrom Wm.heap.size W5 wc) := keeps_of_below q3c
        have k1 : BxF wc (w.heap.size + 1) 22 (.slice none 0 0) := (hbd.block _ HK1.out.lt).trans HK1.out
        have k2 : BxF wc (w.heap.size + 2) 2 (.int .i64 0) := (hbd.block _ HK2.out.lt).trans HK2.out
        have HK1c := Lib.hid k1
        have HK2c := Lib.hid k2
        clear cr1 cr2 fr1 fr2
        have cr1 := k1.cell
        have cr2 := k2.cell
        have fr1 := k1.frozen
        have fr2 := k2.frozen
        rw [t1]
        clear hok HNV HZV hand hshl t1 k1 k2
        gi_wp2
        refine And.intro (HKF.out.trans (((KeepsOthers.setCell _ _ _).trans (KeepsOthers.setCell _ _ _)).from _)) ⟨rfl, hr.out, ?_, ?_, ?_, ?_, ?_⟩
        · exact (Below.heap_setCell _ _ _ _ (by simp)).trans (HK1c.out.set (.slice none 0 0))
        · refine BxF.set (v := .int .i64 0) ?_ _
          exact (Below.heap_setCell _ _ _ _ (by simp)).trans HK2c.out
        · exact (q3w.out.setCell (p := ⟨w.heap.size + 1, 0, none⟩) (by simp) _).setCell (p := ⟨w.heap.size + 2, 0, none⟩) (by simp) _
        · exact HKX.out.trans (((KeepsOthers.setCell _ _ _).trans (KeepsOthers.setCell _ _ _)).from _)
        · simp only [World.size_setCell]; omega
    case done2 =>
      rintro ys X rfl ⟨q1, q2, q3, q4⟩
      have HALLV : Hid (∀ v, v ∈ mem Q → okV fz Q v) := fun v hv => q1.out ⟨v, hv⟩ (mem_memL _)
      have hbxX : BxF X (w2.heap.size + 1) 22 u := (q2.out _ (by omega)).trans ((HB5Z.out.block _ hbx.out.lt).trans hbx.out)
      have hrX : X.ownsRow Wm.heap.size 2 1 u L.length (L.map (Value.int .i64)) := hown.out.below q3
      have cu := hbxX.cell
      have cx : X.cell? ⟨W5.heap.size, 0, none⟩ = some (.int .i64 (Q : Nat)) := BxF.cell ((q2.out _ (by omega)).trans XXZ)
      have HRX := Lib.hid hrX
      have HBX := Lib.hid hbxX
      have hub : ∀ k, u.ownBlock = some k → Wm.heap.size ≤ k ∧ k < X.heap.size := fun k e => World.ownsRow.lt hrX k e
      have HUB := Lib.hid hub
      clear hrX hbxX hub
      gi_wp2_with (gi_at_builtin; refine wpListIn_append_own _ rfl _ _ 22 rfl Wm.heap.size 2 i0 (.int .i64 0) 1 8 Tryd.underlying22 HI.out HI0.out HI1.out HI2.out rfl (by decide) _ _ _ rfl (World.ownsRow.alloc HRX.out _) ⟨X.heap.size, 0, none⟩ 1 1 [.int .i64 (Q : Nat)] rfl rfl (cell_one_new _ _ _) (by simp [Value.oneCell']) (by unfold maxLen; omega) (by omega) (by simp; omega) ?_; intro u' w3 hown3 hgr3 _; obtain ⟨g, cp, rfl⟩ := ownsRow_succ hown3; have hbx3 : BxF w3 (w2.heap.size + 1) 22 u := ((hgr3.block _ (by simp; omega) (fun e => by have := (HUB.out _ e.symm).1; omega)).trans ((Below.heap_alloc _ _ _ (by omega)).trans HBX.out)); have c3 := hbx3.cell; have f3 := hbx3.frozen; have HBX3 := Lib.hid hbx3; have HOW3 := Lib.hid hown3; have HGR3 := Lib.hid hgr3; clear hbx3 hown3 hgr3)
      have hgr3 := HGR3.out
      have hg3 : Wm.heap.size ≤ g := (World.ownsRow.lt HOW3.out g rfl).1
      have Bnd : ∀ n, n ≤ Wm.heap.size → Below n X w3 := fun n hn => (((Below.refl n X).alloc (by omega) _)).grown hgr3 (by simp; omega) (fun k e => by have := (HUB.out k e).1; omega)
      have B3 : ∀ n, n ≤ w2.heap.size + 1 → Below n W5 (w3.setCell ⟨w2.heap.size + 1, 0, none⟩ (.slice (some ⟨g, 0, none⟩) (L.length + 1) cp)) := fun n hn => ((q3.mono (by omega)).trans (Bnd n (by omega))).setCell (p := ⟨w2.heap.size + 1, 0, none⟩) (by simpa using hn) _
      refine And.intro ?_ (And.intro ⟨B3 _ (by omega), ?_⟩ ⟨_, HBX3.out.set _, ?_, fun k hk hne => ?_, HCKS.out HALLV.out, hB5.trans (B3 _ (by omega)), ?_⟩)
      · exact ((keeps_of_below q3).trans ((keeps_of_below ((Below.refl _ X).alloc (Nat.le_refl _) _)).trans (keeps_grown hgr3 (ownsRow_cells (World.ownsRow.alloc HRX.out _))))).trans ((KeepsOthers.setCell _ _ _).from _)
      · refine (Below.heap_setCell _ _ _ _ (by simp)).trans (((Bnd Wm.heap.size (Nat.le_refl _)).block _ (by omega)).trans ?_)
        exact (q2.out _ (by omega)).trans (HB5Z.out.block _ (by omega))
      · show Own _ _ _ _
        rw [HMAP.out]
        unfold Own
        rw [List.length_append, List.map_append]
        exact World.ownsRow.kept HOW3.out (grown_setP3 w3 (w2.heap.size + 1) 0 _) (.inr (by simp [Value.ownBlock]; omega))
      · exact (Below.heap_setCell _ _ _ _ (by simp; omega)).trans (((Bnd Wm.heap.size (Nat.le_refl _)).block k hk).trans ((q2.out k (by omega)).trans (HKZ.out k hk hne)))
      · simp only [World.size_setCell]
        have := (Bnd Wm.heap.size (Nat.le_refl _)).size
        omega
    case stop2 =>
      rintro c pre' X _ ⟨rfl, h0, h1, h2, h3, h4, h5⟩
      gi_wp2
      exact ⟨h4.out, rfl, h0, h1, h2, h3, h5⟩
  case done =>
    rintro D ys W2 hDD rfl ⟨u, hbx, hown, hkp, hck, hB, hs⟩ hK
    have hrt := HYESx.out fun x => hck.out x (List.mem_finRange x)
    have HLE := Lib.hid (HLY.out hrt)
    have hown2 : Own W2 Wm.heap.size u (fbL zs) := by
      have := hown.out
      rw [HALLx.out, ← HLE.out] at this
      exact this
    have HOW := Lib.hid hown2
    obtain ⟨ua, ul, uc, rfl⟩ := own_slF hown2
    obtain ⟨-, -, k1, k2⟩ := HRX.out W2 hkp.out
    have HK1 := Lib.hid k1
    have HK2 := Lib.hid k2
    have c1 := k1.cell
    have c2 := k2.cell
    have q1 := k1.frozen
    have q2 := k2.frozen
    have cu := hbx.out.cell
    clear hown2 k1 k2 hrt hck hown
    gi_wp2
    have hub : ∀ k, (Value.slice ua ul uc).ownBlock = some k → Wm.heap.size ≤ k := fun k e => (World.ownsRow.lt HOW.out k e).1
    obtain ⟨W3, hW3⟩ : ∃ W3, W3 = (W2.setCell ⟨w.heap.size + 1, 0, none⟩ (.slice ua ul uc)).setCell ⟨w.heap.size + 2, 0, none⟩ (.int .i64 0) := ⟨_, rfl⟩
    have k2 : BxF (W2.setCell ⟨w.heap.size + 1, 0, none⟩ (.slice ua ul uc)) (w.heap.size + 2) 2 (.int .i64 0) := (Below.heap_setCell _ _ _ _ (by simp)).trans HK2.out
    have n1 : BxF W3 (w.heap.size + 1) 22 (.slice ua ul uc) := by rw [hW3]; exact (Below.heap_setCell _ _ _ _ (by simp)).trans (HK1.out.set (.slice ua ul uc))
    have n2 : BxF W3 (w.heap.size + 2) 2 (.int .i64 0) := by rw [hW3]; exact k2.set _
    have hB3 : Below w.heap.size w W3 := by rw [hW3]; exact (hB.setCell (p := ⟨w.heap.size + 1, 0, none⟩) (by simp) _).setCell (p := ⟨w.heap.size + 2, 0, none⟩) (by simp) _
    have hK3 : W3.heap[D]? = some (.deferred (some [])) := by rw [hW3]; exact (Below.heap_setCell _ _ _ _ (by simp; omega)).trans ((Below.heap_setCell _ _ _ _ (by simp; omega)).trans hK)
    have hO3 : Own W3 Wm.heap.size (.slice ua ul uc) (fbL zs) := by
      rw [hW3]
      exact (HOW.out.kept (grown_setP3 W2 (w.heap.size + 1) 0 _) (own_ne (fun k e => by have := hub k e; omega))).kept (grown_setP3 _ (w.heap.size + 2) 0 _) (own_ne (fun k e => by have := hub k e; omega))
    show bodyPostM _ _ _ _ _ _ _ ((W2.setCell ⟨w.heap.size + 1, 0, none⟩ (.slice ua ul uc)).setCell ⟨w.heap.size + 2, 0, none⟩ (.int .i64 0))
    rw [← hW3]
    clear hW3 k2 c1 c2 q1 q2
    refine leaves_marks (H := Wm.heap.size) [D] _ ⟨by simp, fun E hE => ?_⟩ fun W' hss hb' => ?_
    · obtain rfl : E = D := by simpa using hE
      exact ⟨hDD, hK3⟩
    · have m1 : BxF W' (w.heap.size + 1) 22 (.slice ua ul uc) := (hb'.block _ (by omega)).trans n1
      have m2 : BxF W' (w.heap.size + 2) 2 (.int .i64 0) := (hb'.block _ (by omega)).trans n2
      refine ⟨_, results_2F (p := 2) (u := 3) (ty := 22) (tu := 2) rfl _ W' (w.heap.size + 1) (w.heap.size + 2) _ _ rfl rfl m1.cell m2.cell Tryd.underlying22 rfl Tryd.underlying2 rfl, ⟨_, rfl, ?_⟩, hB3.trans (hb'.mono (by omega))⟩
      exact (hO3.kept (row := some D) ⟨hb'.os, hb'.tape, hb'.output, hb'.size, fun k _ hne => hss k (fun e => hne (by simpa using e))⟩ (row_far hO3 fun r e => by cases e; exact ⟨_, hK3, rfl⟩)).base (by omega)
  case stop =>
    rintro D c pre W2 hDD _ ⟨rfl, h0, h1, h2, hB, hs⟩ hK
    have HLE := Lib.hid (HLN.out h0)
    gi_wp2
    refine leaves_marks (H := Wm.heap.size) [D] _ ⟨by simp, fun E hE => ?_⟩ fun W' hss hb' => ?_
    · obtain rfl : E = D := by simpa using hE
      exact ⟨hDD, hK⟩
    · have m1 : BxF W' (w.heap.size + 1) 22 (.slice none 0 0) := (hb'.block _ (by omega)).trans h1.out
      have m2 : BxF W' (w.heap.size + 2) 2 (.int .i64 0) := (hb'.block _ (by omega)).trans h2.out
      refine ⟨_, results_2F (p := 2) (u := 3) (ty := 22) (tu := 2) rfl _ W' (w.heap.size + 1) (w.heap.size + 2) _ _ rfl rfl m1.cell m2.cell Tryd.underlying22 rfl Tryd.underlying2 rfl, ⟨_, rfl, ?_⟩, hB.trans (hb'.mono (by omega))⟩
      rw [HLE.out]
      exact Own.nil _ _
end Go.Proofs.YtlodaeoikkjbkaaDoor
namespace Go.Proofs.YtlodaeoikkjbkaaDoor
set_option maxRecDepth 100000
open Go.RowKit Go.Shelf

attribute [local go_sem] Oper.semAt_some

theorem prN_pos {fz : List Int} : ∀ v, 0 < v → 0 < (prN fz v).length
  | 1, _ => by
    have h : leadB fz 0 = true := leadB_iff.2 fun u hu => by omega
    rw [prN_yes h]; simp
  | v + 2, _ => by
    have ih := prN_pos (fz := fz) (v + 1) (by omega)
    cases h : leadB fz (v + 1) with
    | true => rw [prN_yes h, List.length_append]; omega
    | false => rw [prN_no h]; exact ih
theorem prN_len (fz : List Int) : (fbR fz).length = (prN fz fz.length).length := by unfold fbR; rw [List.length_map]
/-- The fibres and the code, whatever comes in. -/
noncomputable def FbL9 (n : Int) (zs : List Int) : List Int := if isG n zs && (connB zs && decide (2 ≤ dmX zs)) then fbL zs else []
theorem FbL9_len {n : Int} {zs : List Int} : (FbL9 n zs).length ≤ 62 := by
  unfold FbL9
  cases h : isG n zs && (connB zs && decide (2 ≤ dmX zs)) with
  | false => simp
  | true =>
    rw [if_pos rfl]
    simp only [Bool.and_eq_true] at h
    have hl := (isG_parts h.1).2.1
    have h3 := (isG_parts h.1).2.2.1
    cases ha : anB zs (dmX zs) with
    | false => rw [fbL_no ha]; simp
    | true =>
      rw [fbL_yes ha, prN_len]
      have := prN_length (gaR zs (dmX zs)) (gaR zs (dmX zs)).length
      have h4 := gaR_length' zs (dmX zs)
      omega
theorem FbL9_pos {n : Int} {zs : List Int} : decide (0 < (FbL9 n zs).length) = apD n zs := by
  unfold FbL9 apD anQ
  cases hg : isG n zs with
  | false => simp
  | true =>
    cases hc : connB zs with
    | false => simp
    | true =>
      cases hd : decide (2 ≤ dmX zs) with
      | false => simp
      | true =>
        simp only [Bool.and_self, if_true, Bool.true_and]
        have h1 := (isG_parts hg).1
        have h3 := (isG_parts hg).2.2.1
        cases ha : anB zs (dmX zs) with
        | false => rw [fbL_no ha]; simp
        | true =>
          rw [fbL_yes ha, prN_len]
          have h4 := gaR_length' zs (dmX zs)
          have := prN_pos (fz := gaR zs (dmX zs)) (gaR zs (dmX zs)).length (by omega)
          simp; omega

set_option maxHeartbeats 1600000 in
theorem fib_no (n : Int) (v : Value) (zs : List Int) (w : World) (h : Sl w v zs) (hl : zs.length ≤ 9223372036854775807) (hT : Tab w) (c D : Int) (hc : dmC n zs = c) (hD : dmD n zs = D) (hno : c ≠ 0 ∨ D < 2) :
    CallsIn Fence.wide 9 Tryd.prog 54 #[.agg #[.int .i64 n, v]] w fun e w' => e = .returned (.tuple #[.slice none 0 0, .int .i64 c]) ∧ Below w.heap.size w w' := by
  obtain ⟨Wz, hWz⟩ : ∃ Wz, Wz = ((w.alloc (.cells #[.int .i64 n, v] 28)).alloc (.cells #[.slice none 0 0] 22)).alloc (.cells #[.int .i64 0] 2) := ⟨_, rfl⟩
  have sz : w.heap.size + 3 ≤ Wz.heap.size := by rw [hWz]; simp
  have D0 : Below w.heap.size w Wz := by rw [hWz]; exact (((Below.refl _ _).alloc (Nat.le_refl _) _).alloc (by simp) _).alloc (by simp; omega) _
  have X0 : Hid (Wz.heap[w.heap.size]? = some (.cells #[.int .i64 n, v] 28 (0, 0))) := by show _ = _; rw [hWz]; exact heap_old_at (heap_old_at (World.alloc_heap_new w _) _) _
  have BX1 : Hid (BxF Wz (w.heap.size + 1) 22 (.slice none 0 0)) := by show BxF _ _ _ _; rw [hWz]; exact heap_old_at (heap_new_at _ _ _ (by simp)) _
  have BX2 : Hid (BxF Wz (w.heap.size + 2) 2 (.int .i64 0)) := by show BxF _ _ _ _; rw [hWz]; exact heap_new_at _ _ _ (by simp)
  have hdm := implDm_any n v zs Wz (h.below D0) hl (hT.belowAll D0)
  rw [hc, hD] at hdm
  obtain ⟨b0, b1, -, -⟩ := two_cells X0.out
  have hcond : (c != 0) = true ∨ ((c != 0) = false ∧ decide (D < 2) = true) := by
    by_cases h0 : c = 0
    · have hD2 : D < 2 := by
        rcases hno with h | h
        · exact absurd h0 h
        · exact h
      exact .inr ⟨by simp [h0], by simpa using hD2⟩
    · exact .inl (by simpa using h0)
  have hD0 := Lib.hid D0
  have SZ := Lib.hid sz
  generalize dmR n zs = dr at *
  clear h hT X0 D0 hc hD hno
  refine callsIn_of_wp_marks Tryd.func54 rfl trivial ?_ rfl
  simp only [Tryd.ntmps54, List.size_toArray, List.length_cons, List.length_nil, Nat.reduceAdd, Nat.reduceSub, Array.replicate_succ, Array.replicate_zero, List.push_toArray, List.append_toArray, List.nil_append, List.cons_append]
  gi_upto_region 1 with fail
  refine at_world (w' := Wz) ?_ (by rw [hWz])
  clear hWz
  gi_upto_region 2 with (refine ⟨trivial, ?_⟩; gi_at_call 74; refine (callsIn_wide.2 hdm).mono ?_; rintro e w1 ⟨rfl, hb1⟩)
  have s1 := hb1.size
  have h1 : BxF w1 (w.heap.size + 1) 22 (.slice none 0 0) := (hb1.block _ (by have := SZ.out; omega)).trans BX1.out
  have h2 : BxF w1 (w.heap.size + 2) 2 (.int .i64 0) := (hb1.block _ (by have := SZ.out; omega)).trans BX2.out
  have D1 : Below w.heap.size w w1 := hD0.out.trans (hb1.mono hD0.out.size)
  have c1 := h1.cell
  have c2 := h2.cell
  have q1 := h1.frozen
  have q2 := h2.frozen
  have H1 := Lib.hid h1
  have H2 := Lib.hid h2
  have HD1 := Lib.hid D1
  clear hdm hb1 b0 b1 BX1 BX2 h1 h2 D1
  rcases hcond with g1 | ⟨g1, g2⟩
  all_goals
    gi_wp2
    obtain ⟨W3, hW3⟩ : ∃ W3, W3 = (w1.setCell ⟨w.heap.size + 1, 0, none⟩ (.slice none 0 0)).setCell ⟨w.heap.size + 2, 0, none⟩ (.int .i64 c) := ⟨_, rfl⟩
    have k2 : BxF (w1.setCell ⟨w.heap.size + 1, 0, none⟩ (.slice none 0 0)) (w.heap.size + 2) 2 (.int .i64 0) := (Below.heap_setCell _ _ _ _ (by simp)).trans H2.out
    have n1 : BxF W3 (w.heap.size + 1) 22 (.slice none 0 0) := by rw [hW3]; exact (Below.heap_setCell _ _ _ _ (by simp)).trans (H1.out.set (.slice none 0 0))
    have n2 : BxF W3 (w.heap.size + 2) 2 (.int .i64 c) := by rw [hW3]; exact k2.set _
    have hB3 : Below w.heap.size w W3 := by rw [hW3]; exact (HD1.out.setCell (p := ⟨w.heap.size + 1, 0, none⟩) (by simp) _).setCell (p := ⟨w.heap.size + 2, 0, none⟩) (by simp) _
    show bodyPostM _ _ _ _ _ _ _ ((w1.setCell ⟨w.heap.size + 1, 0, none⟩ (.slice none 0 0)).setCell ⟨w.heap.size + 2, 0, none⟩ (.int .i64 c))
    rw [← hW3]
    clear hW3 k2 c1 c2 q1 q2
    refine leaves_marks (H := W3.heap.size) [] _ ⟨by simp, fun E hE => by cases hE⟩ fun W' hss hb' => ?_
    have s3 : w.heap.size + 3 ≤ W3.heap.size := by have := n2.lt; omega
    have m1 : BxF W' (w.heap.size + 1) 22 (.slice none 0 0) := (hb'.block _ (by omega)).trans n1
    have m2 : BxF W' (w.heap.size + 2) 2 (.int .i64 c) := (hb'.block _ (by omega)).trans n2
    exact ⟨_, results_2F (p := 2) (u := 3) (ty := 22) (tu := 2) rfl _ W' (w.heap.size + 1) (w.heap.size + 2) _ _ rfl rfl m1.cell m2.cell Tryd.underlying22 rfl Tryd.underlying2 rfl, rfl, hB3.trans (hb'.mono (by omega))⟩

theorem fib_any (n : Int) (v : Value) (zs : List Int) (w : World) (h : Sl w v zs) (hl : zs.length ≤ 9223372036854775807) (hT : Tab w) :
    Calls Tryd.prog 54 #[.agg #[.int .i64 n, v]] w fun e w' => (∃ u, e = .returned (.tuple #[u, .int .i64 (cnC n zs)]) ∧ Own w' w.heap.size u (FbL9 n zs)) ∧ Below w.heap.size w w' := by
  by_cases hy : isG n zs = true ∧ connB zs = true ∧ ¬ dmX zs < 2
  · obtain ⟨hg, hcn, hd⟩ := hy
    obtain ⟨h1, _, h3, _⟩ := isG_parts hg
    obtain ⟨b, off, cap, rfl, hb, hc⟩ := sl_some h (by omega)
    obtain rfl : (zs.length : Int) = n := h3
    have e1 : cnC zs.length zs = 0 := by simp [cnC, hg, hcn]
    have e2 : FbL9 zs.length zs = fbL zs := by unfold FbL9; rw [hg, hcn, decide_eq_true (by omega)]; rfl
    rw [e1, e2]
    exact callsIn_wide.1 (fib_in b off cap zs w hb hc hg hcn hd hT)
  · have e0 : dmC n zs = cnC n zs := rfl
    have e2 : FbL9 n zs = [] := by
      unfold FbL9
      refine if_neg fun h2 => hy ?_
      simp only [Bool.and_eq_true, decide_eq_true_eq] at h2
      exact ⟨h2.1, h2.2.1, by omega⟩
    rw [e2]
    refine (callsIn_wide.1 (fib_no n v zs w h hl hT (cnC n zs) (dmD n zs) e0 rfl ?_)).mono ?_
    · by_cases hg : isG n zs = true
      · by_cases hcn : connB zs = true
        · refine .inr ?_
          have : dmD n zs = dmX zs := by unfold dmD dmX; rw [hg, hcn]; rfl
          rw [this]
          exact Classical.byContradiction fun hn => hy ⟨hg, hcn, hn⟩
        · refine .inl ?_
          unfold cnC; rw [if_pos hg, if_neg hcn]; decide
      · refine .inl ?_
        unfold cnC; rw [if_neg hg]; decide
    · rintro e w' ⟨rfl, hb⟩
      exact ⟨⟨_, rfl, Own.nil _ _⟩, hb⟩

set_option maxHeartbeats 800000 in
theorem implAn_any (n : Int) (v : Value) (zs : List Int) (w : World) (h : Sl w v zs) (hl : zs.length ≤ 9223372036854775807) (hT : Tab w) :
    Calls Tryd.prog 30 #[.agg #[.int .i64 n, v]] w fun e w' => e = .returned (.tuple #[.bool (apD n zs), .int .i64 (cnC n zs)]) ∧ Below w.heap.size w w' := by
  have D0 : Below w.heap.size w (w.alloc (.cells #[.int .i64 n, v] 28)) := (Below.refl _ _).alloc (Nat.le_refl _) _
  have hfi := fib_any n v zs _ (h.below D0) hl (hT.belowAll D0)
  have HP := Lib.hid (@FbL9_pos n zs)
  have hlen := @FbL9_len n zs
  have HD0 := Lib.hid D0
  generalize cnC n zs = c at *
  generalize apD n zs = r at *
  generalize FbL9 n zs = L at *
  clear h hT hl D0
  go_enter Tryd.func30, Tryd.ntmps30
  go_wp2_with fail
  refine hfi.mono ?_
  rintro e w1 ⟨⟨u, rfl, hO⟩, hb1⟩
  obtain ⟨a, cp, rfl⟩ : ∃ a cp, u = .slice a L.length cp := by
    rcases hO.form with ⟨rfl, h0⟩ | ⟨g, cap, rfl, _⟩
    · rw [h0]; exact ⟨_, _, rfl⟩
    · exact ⟨_, _, rfl⟩
  have HB1 := Lib.hid (HD0.out.trans (hb1.mono HD0.out.size))
  clear hb1 hO hfi
  go_wp2
  go_ret2
  rw [← HP.out]
  exact ⟨rfl, HB1.out⟩
end Go.Proofs.YtlodaeoikkjbkaaDoor
