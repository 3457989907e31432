/-
  impl.commonNumber, over the iterator of the edges of a graph.
-/
import Derived.Test.YthlchifmmmnagaaDoorCnp
import Derived.Test.YthlchifmmmnagaaDoorRr
import Derived.Test.YthlchifmmmnagaaDoorTl7
import Derived.Test.YthlchifmmmnagaaDoorDeg
import Derived.Laws.ResultCell
import Derived.Shelf.RegionOpen
namespace Go.Proofs.YthlchifmmmnagaaDoor
set_option maxRecDepth 100000
open Go.RowKit Go.Shelf

attribute [local go_sem] Oper.semAt_some

theorem loadVar_cellC {P : Program} {ty : TypeId} {d : TypeDesc} (hu : P.underlying ty = some d) (hd : (match d with | .struct _ | .array _ _ => true | _ => false) = false) (w : World) (a : Addr) (v : Value) (hc : w.cell? a = some v) : (loadVar ty a).run P w = .ok v w := by
  have hagg : (isAgg ty).run P w = .ok false w := by
    unfold isAgg
    simp [underlying, hu, go_sem]
    cases d <;> simp_all [go_sem]
  unfold loadVar
  simp [Sem.run_bind, hagg, go_sem, hc]
theorem results_2cellsC {P : Program} {fn : Func} {p u : Tmp} {ty tu : TypeId} {d e : TypeDesc} (h : fn.results = #[.cell p ty, .cell u tu]) (tmps : Array Value) (w : World) (g k : Nat) (x y : Value)
    (hp : tmps.getD p undef = .pointer (some ⟨g, 0, none⟩)) (hq : tmps.getD u undef = .pointer (some ⟨k, 0, none⟩)) (hx : w.cell? ⟨g, 0, none⟩ = some x) (hy : w.cell? ⟨k, 0, none⟩ = some y)
    (hu : P.underlying ty = some d) (hd : (match d with | .struct _ | .array _ _ => true | _ => false) = false) (hv : P.underlying tu = some e) (he : (match e with | .struct _ | .array _ _ => true | _ => false) = false) :
    (results fn tmps).run P w = .ok (.tuple #[x, y]) w := by
  have hp' : tmps[p]?.getD undef = .pointer (some ⟨g, 0, none⟩) := by simpa using hp
  have hq' : tmps[u]?.getD undef = .pointer (some ⟨k, 0, none⟩) := by simpa using hq
  simp only [results, h]
  simp [hp', hq', asAddr, loadVar_cellC hu hd w _ _ hx, loadVar_cellC hv he w _ _ hy]

theorem mixedC : Tryd.prog.follows Departure.mixedOrders = true := by kernel_rfl

set_option maxHeartbeats 6400000 in
theorem common_in (b off cap a b2 off2 cap2 : Nat) (zs zs2 : List Int) (w : World) (hb : b < w.heap.size) (hc : Cells w b off zs) (hg : isG zs.length zs = true) (hlen : zs2.length = zs.length)
    (hb2 : b2 < w.heap.size) (hR : RdE a b2 off2 cap2 zs2 w) (hg2 : isG zs2.length zs2 = true) (hT : Tab w) :
    CallsIn Fence.wide 6 Tryd.prog 40 #[.agg #[.int .i64 zs.length, .slice (some ⟨b, off, none⟩) zs.length cap], .func (.func 61) #[] #[.pointer (some ⟨a, 0, none⟩)]] w fun e w' =>
      e = .returned (.tuple #[.int .i64 (cmR zs (edL zs2)), .bool (cmB zs (edL zs2))]) ∧ Below w.heap.size w w' := by
  obtain ⟨g1, g2, -, -, -⟩ := isG_parts hg
  have h62 : zs.length ≤ 62 := by omega
  have HROW := Lib.hid (isG_row_ok hg)
  have HZ2 : Hid (∀ i, i < zs2.length → (el zs2 i).toNat < 2 ^ zs2.length) := fun i hi => by
    obtain ⟨_, _, e3, e4, -⟩ := isG_parts hg2
    have q0 := (isG_row_ok hg2 i hi).1
    have q1 := rowOk_le (rowsOk_at e4 hi)
    rw [Int.toNat_natCast] at q1
    have e : ((2 : Int) ^ zs2.length) = ((2 ^ zs2.length : Nat) : Int) := by simp
    rw [e] at q1
    omega
  have HC0 := Lib.hid hc
  obtain ⟨ra, rc, rt⟩ := hR
  have hal : a < w.heap.size := (Array.getElem?_eq_some_iff.1 ra).1
  have HRA := Lib.hid ra; have HRC := Lib.hid rc; have HT0 := Lib.hid hT
  have HG2 := Lib.hid hg2
  have HLEN := Lib.hid hlen
  clear hc hg hg2 ra rc rt hT hlen
  refine callsIn_of_wp_marks Tryd.func40 rfl trivial ?_ rfl
  simp only [Tryd.ntmps40, List.size_toArray, List.length_cons, List.length_nil, Nat.reduceAdd, Nat.reduceSub, Array.replicate_succ, Array.replicate_zero, List.push_toArray, List.append_toArray, List.nil_append, List.cons_append]
  gi_upto_region 1 with fail
  obtain ⟨Wb, hWb⟩ : ∃ Wb, Wb = ((w.alloc (.cells #[.int .i64 zs.length, .slice (some ⟨b, off, none⟩) zs.length cap] 26)).alloc (.cells #[.int .i64 0] 2)).alloc (.cells #[.bool false] 4) := ⟨_, rfl⟩
  refine at_world (w' := Wb) ?_ (by rw [hWb])
  have sb : Wb.heap.size = w.heap.size + 3 := by rw [hWb]; simp
  have hbb : Below w.heap.size w Wb := by rw [hWb]; exact (((Below.refl _ _).alloc (Nat.le_refl _) _).alloc (by simp) _).alloc (by simp; omega) _
  have HGb : Hid (Wb.heap[w.heap.size]? = some (.cells #[.int .i64 zs.length, .slice (some ⟨b, off, none⟩) zs.length cap] 26 (0, 0))) := by show _ = _; rw [hWb]; exact heap_old_at (heap_old_at (World.alloc_heap_new w _) _) _
  have H4b : Hid (Bx Wb (w.heap.size + 1) 2 (.int .i64 0)) := by show Bx _ _ _ _; rw [hWb]; exact heap_old_at (heap_new_at _ _ _ (by simp)) _
  have H5b : Hid (Bx Wb (w.heap.size + 2) 4 (.bool false)) := by show Bx _ _ _ _; rw [hWb]; exact heap_new_at _ _ _ (by simp)
  clear hWb
  gi_upto_region 2 with fail
  obtain ⟨Wm, hWm⟩ : ∃ Wm, Wm = (Wb.alloc (.cells #[.int .i64 0] 2)).alloc (.cells #[.bool false] 4) := ⟨_, rfl⟩
  refine at_world (w' := Wm) ?_ (by rw [hWm])
  have sm : Wm.heap.size = w.heap.size + 5 := by rw [hWm]; simp [sb]
  have hbm : Below Wb.heap.size Wb Wm := by rw [hWm]; exact ((Below.refl _ _).alloc (Nat.le_refl _) _).alloc (by simp) _
  have hEm : Below w.heap.size w Wm := hbb.trans (hbm.mono (by omega))
  have HGm : Hid (Wm.heap[w.heap.size]? = some (.cells #[.int .i64 zs.length, .slice (some ⟨b, off, none⟩) zs.length cap] 26 (0, 0))) := (hbm.block _ (by omega)).trans HGb.out
  have H4m : Hid (Bx Wm (w.heap.size + 1) 2 (.int .i64 0)) := (hbm.block _ (by omega)).trans H4b.out
  have H5m : Hid (Bx Wm (w.heap.size + 2) 4 (.bool false)) := (hbm.block _ (by omega)).trans H5b.out
  have H6m : Hid (Bx Wm (w.heap.size + 3) 2 (.int .i64 (cmN zs []))) := by show Bx _ _ _ _; rw [hWm, ← sb]; exact heap_old_at (World.alloc_heap_new Wb _) _
  have H7m : Hid (Bx Wm (w.heap.size + 4) 4 (.bool (neB []))) := by show Bx _ _ _ _; rw [hWm]; exact heap_new_at _ _ _ (by simp [sb])
  have hst := edges_stops 5 (by omega) a b2 off2 cap2 zs2 HG2.out Wm
  clear hWm HGb H4b H5b hbb hbm
  gi_wp2
  refine wpIn_rangeO rfl (by omega) (gf := 61) (lb := #[.pointer (some ⟨a, 0, none⟩)]) rfl trivial (enters_of Tryd.func61 (by kernel_rfl) rfl)
    hst (fun _ _ => trivial) (fun _ _ _ _ _ _ _ _ => trivial) (Below.refl _ _) (fun _ => rfl)
    (fun A pre X => Hid (Bx X (w.heap.size + 3) 2 (.int .i64 (cmN zs pre))) ∧ Hid (Bx X (w.heap.size + 4) 4 (.bool (neB pre))) ∧ Hid (Bx X (w.heap.size + 1) 2 (.int .i64 0)) ∧ Hid (Bx X (w.heap.size + 2) 4 (.bool false)) ∧ Below w.heap.size w X ∧ Wm.heap.size ≤ X.heap.size ∧ Hid (X.heap[w.heap.size]? = some (.cells #[.int .i64 zs.length, .slice (some ⟨b, off, none⟩) zs.length cap] 26 (0, 0))) ∧ alk zs pre = true ∧ Hid (∀ k, k ∈ A → k < X.heap.size))
    (fun cd _ X => cd = .ret ∧ alk zs (edL zs2) = false ∧ Hid (Bx X (w.heap.size + 1) 2 (.int .i64 0)) ∧ Hid (Bx X (w.heap.size + 2) 4 (.bool false)) ∧ Below w.heap.size w X ∧ Wm.heap.size ≤ X.heap.size)
    ?hI ?hIx ?hgr ?hRdd ?h0c (fun x => { tmps := #[.agg #[.int .i64 zs.length, .slice (some ⟨b, off, none⟩) zs.length cap], .func (.func 61) #[] #[.pointer (some ⟨a, 0, none⟩)], .pointer (some ⟨w.heap.size, 0, none⟩), undef, .pointer (some ⟨w.heap.size + 1, 0, none⟩), .pointer (some ⟨w.heap.size + 1 + 1, 0, none⟩), .pointer (some ⟨w.heap.size + 3, 0, none⟩), .pointer (some ⟨w.heap.size + 3 + 1, 0, none⟩), .int .i64 x.1, .int .i64 x.2, undef, .func (.func 61) #[] #[.pointer (some ⟨a, 0, none⟩)], .int .i64 x.1, .int .i64 x.2, undef, undef, undef, undef, undef, undef, undef, undef, undef, undef, undef, undef, undef, undef, undef, undef, undef, undef, undef, undef, undef], defers := [] }) ?assign ?body ?done ?stop
  case hI =>
    rintro A pre X Y row ⟨h1, h2, h3, h4, h5, h6, h7, h8, h9⟩ hg hr
    exact ⟨kept_rowP hg hr (by omega) h1.out, kept_rowP hg hr (by omega) h2.out, kept_rowP hg hr (by omega) h3.out, kept_rowP hg hr (by omega) h4.out, h5.grown hg h5.size (fun k e => by have := (hr k e).1; omega), Nat.le_trans h6 hg.size, kept_rowP hg hr (by omega) h7.out, h8, fun k hk => Nat.lt_of_lt_of_le (h9.out k hk) hg.size⟩
  case hIx =>
    rintro cd pre X Y row ⟨h0, h1, h3, h4, h5, h6⟩ hg hr
    exact ⟨h0, h1, kept_rowP hg hr (by omega) h3.out, kept_rowP hg hr (by omega) h4.out, h5.grown hg h5.size (fun k e => by have := (hr k e).1; omega), Nat.le_trans h6 hg.size⟩
  case hgr =>
    rintro A pre X o hsX ⟨h1, h2, h3, h4, h5, h6, h7, h8, h9⟩
    have hbX : Below X.heap.size X (X.alloc o) := (Below.refl _ _).alloc (Nat.le_refl _) _
    have lo : ∀ {q : Nat} {ob : Obj}, X.heap[q]? = some ob → (X.alloc o).heap[q]? = some ob := fun h => (hbX.block _ (Array.getElem?_eq_some_iff.1 h).1).trans h
    exact ⟨lo h1.out, lo h2.out, lo h3.out, lo h4.out, h5.alloc h5.size _, by simp; omega, lo h7.out, h8, fun q hq => (List.mem_cons.1 hq).elim (fun e => by rw [e]; simp) (fun h => Nat.lt_of_lt_of_le (h9.out q h) (by simp))⟩
  case hRdd =>
    rintro A pre X ⟨h1, h2, h3, h4, h5, h6, h7, h8, h9⟩
    exact ⟨(h5.block a hal).trans HRA.out, HRC.out.below h5 hb2, HT0.out.belowAll h5⟩
  case h0c => exact ⟨H6m, H7m, H4m, H5m, hEm, Nat.le_refl _, HGm, rfl, fun k hk => by cases hk⟩
  case assign =>
    intro l y W K hK
    gi_wp2
    exact hK
  case body =>
    rintro l A pre x W5 _ _ ⟨h1, h2, h3, h4, h5, h6, h7, h8, h9⟩ hAl _ hnx
    have hxm := edC_lt (hnx.subset (List.mem_append_right _ List.mem_cons_self)) HZ2.out
    rw [HLEN.out] at hxm
    have HNX := Lib.hid hnx
    clear hnx
    obtain ⟨v1, v2⟩ := x
    simp only at hxm ⊢
    obtain ⟨z0, z1, -, -⟩ := two_cells h7.out
    have hcz := HC0.out.below h5 hb
    have cv1 := hcz v1 (by omega)
    have cv2 := hcz v2 (by omega)
    obtain ⟨r1, r2⟩ := HROW.out v1 (by omega)
    obtain ⟨r3, r4⟩ := HROW.out v2 (by omega)
    obtain ⟨n1, e1⟩ : ∃ x : Nat, el zs v1 = (x : Int) := ⟨(el zs v1).toNat, by omega⟩
    obtain ⟨n2, e2⟩ : ∃ x : Nat, el zs v2 = (x : Int) := ⟨(el zs v2).toNat, by omega⟩
    have hcf : cF zs (v1, v2) = pc (n1 &&& n2) := by unfold cF; rw [e1, e2, Int.toNat_natCast, Int.toNat_natCast]
    rw [e1] at cv1 r1 r2
    rw [e2] at cv2 r3 r4
    clear e1 e2 hcz
    have hand := and_i64 n1 n2 (by omega) (by omega)
    have hal2 : n1 &&& n2 ≤ n1 := Nat.and_le_left
    have hpc := pc_le (n1 &&& n2)
    have HCO := Lib.hid (fun W => countOf_any ((n1 &&& n2 : Nat) : Int) W (by omega) (by omega))
    simp only [Int.toNat_natCast] at HCO
    obtain ⟨C, hC⟩ : ∃ C, C = pc (n1 &&& n2) := ⟨_, rfl⟩
    rw [← hC] at HCO hcf hpc
    have hmx : Tryd.prog.follows Departure.mixedOrders = true := mixedC
    have zv1 : (0 : Int) ≤ v1 := by omega
    have zv2 : (0 : Int) ≤ v2 := by omega
    have lv1 : (v1 : Int) < zs.length := by omega
    have lv2 : (v2 : Int) < zs.length := by omega
    clear hC
    gi_wp2
    rename_i hK0
    have HKK := Lib.hid hK0
    clear hK0
    refine region_round (fun w' => w'.cell? ⟨w.heap.size, 1, none⟩ = some (.slice (some ⟨b, off, none⟩) zs.length cap) ∧ w'.cell? ⟨b, off + v1, none⟩ = some (.int .i64 n1) ∧ w'.cell? ⟨b, off + v2, none⟩ = some (.int .i64 n2)) hmx (by kernel_rfl) ⟨z1, cv1, cv2⟩ (fun hHeld => ?_)
    show wpAnyH _ _ _ _ _ 13 (Array.replicate 13 false) _ _
    refine wpAnyH_take (i := 0) (v := .pointer (some ⟨w.heap.size, 1, none⟩)) rfl (by kernel_rfl) (by kernel_rfl) (by kernel_rfl) (fun _ _ _ h => h) (Or.inl ⟨by rfl, fun Wt hSw => by obtain ⟨q1, q2, q3⟩ : Wt.cell? ⟨w.heap.size, 1, none⟩ = some (.slice (some ⟨b, off, none⟩) zs.length cap) ∧ Wt.cell? ⟨b, off + v1, none⟩ = some (.int .i64 n1) ∧ Wt.cell? ⟨b, off + v2, none⟩ = some (.int .i64 n2) := hSw; go_simp⟩) (by assumption) ?_
    simp only [List.getElem_toArray, List.getElem_cons_zero, Act.put, List.setIfInBounds_toArray, List.set_cons_zero, List.set_cons_succ]
    refine wpAnyH_take (i := 1) (v := .slice (some ⟨b, off, none⟩) zs.length cap) rfl (by kernel_rfl) (by kernel_rfl) (by kernel_rfl) (fun _ _ _ h => h) (Or.inl ⟨by rfl, fun Wt hSw => by obtain ⟨q1, q2, q3⟩ : Wt.cell? ⟨w.heap.size, 1, none⟩ = some (.slice (some ⟨b, off, none⟩) zs.length cap) ∧ Wt.cell? ⟨b, off + v1, none⟩ = some (.int .i64 n1) ∧ Wt.cell? ⟨b, off + v2, none⟩ = some (.int .i64 n2) := hSw; go_simp⟩) (by assumption) ?_
    simp only [List.getElem_toArray, List.getElem_cons_zero, List.getElem_cons_succ, Act.put, List.setIfInBounds_toArray, List.set_cons_zero, List.set_cons_succ]
    refine wpAnyH_take (i := 2) (v := .int .i64 v1) rfl (by kernel_rfl) (by kernel_rfl) (by kernel_rfl) (fun _ _ _ h => h) (Or.inl ⟨by rfl, fun Wt hSw => by obtain ⟨q1, q2, q3⟩ : Wt.cell? ⟨w.heap.size, 1, none⟩ = some (.slice (some ⟨b, off, none⟩) zs.length cap) ∧ Wt.cell? ⟨b, off + v1, none⟩ = some (.int .i64 n1) ∧ Wt.cell? ⟨b, off + v2, none⟩ = some (.int .i64 n2) := hSw; go_simp⟩) (by assumption) ?_
    simp only [List.getElem_toArray, List.getElem_cons_zero, List.getElem_cons_succ, Act.put, List.setIfInBounds_toArray, List.set_cons_zero, List.set_cons_succ]
    refine wpAnyH_take (i := 3) (v := .pointer (some ⟨b, off + v1, none⟩)) rfl (by kernel_rfl) (by kernel_rfl) (by kernel_rfl) (fun _ _ _ h => h) (Or.inl ⟨by rfl, fun Wt hSw => by obtain ⟨q1, q2, q3⟩ : Wt.cell? ⟨w.heap.size, 1, none⟩ = some (.slice (some ⟨b, off, none⟩) zs.length cap) ∧ Wt.cell? ⟨b, off + v1, none⟩ = some (.int .i64 n1) ∧ Wt.cell? ⟨b, off + v2, none⟩ = some (.int .i64 n2) := hSw; go_simp⟩) (by assumption) ?_
    simp only [List.getElem_toArray, List.getElem_cons_zero, List.getElem_cons_succ, Act.put, List.setIfInBounds_toArray, List.set_cons_zero, List.set_cons_succ]
    refine wpAnyH_take (i := 4) (v := .int .i64 n1) rfl (by kernel_rfl) (by kernel_rfl) (by kernel_rfl) (fun _ _ _ h => h) (Or.inl ⟨by rfl, fun Wt hSw => by obtain ⟨q1, q2, q3⟩ : Wt.cell? ⟨w.heap.size, 1, none⟩ = some (.slice (some ⟨b, off, none⟩) zs.length cap) ∧ Wt.cell? ⟨b, off + v1, none⟩ = some (.int .i64 n1) ∧ Wt.cell? ⟨b, off + v2, none⟩ = some (.int .i64 n2) := hSw; go_simp⟩) (by assumption) ?_
    simp only [List.getElem_toArray, List.getElem_cons_zero, List.getElem_cons_succ, Act.put, List.setIfInBounds_toArray, List.set_cons_zero, List.set_cons_succ]
    refine wpAnyH_take (i := 5) (v := .pointer (some ⟨w.heap.size, 1, none⟩)) rfl (by kernel_rfl) (by kernel_rfl) (by kernel_rfl) (fun _ _ _ h => h) (Or.inl ⟨by rfl, fun Wt hSw => by obtain ⟨q1, q2, q3⟩ : Wt.cell? ⟨w.heap.size, 1, none⟩ = some (.slice (some ⟨b, off, none⟩) zs.length cap) ∧ Wt.cell? ⟨b, off + v1, none⟩ = some (.int .i64 n1) ∧ Wt.cell? ⟨b, off + v2, none⟩ = some (.int .i64 n2) := hSw; go_simp⟩) (by assumption) ?_
    simp only [List.getElem_toArray, List.getElem_cons_zero, List.getElem_cons_succ, Act.put, List.setIfInBounds_toArray, List.set_cons_zero, List.set_cons_succ]
    refine wpAnyH_take (i := 6) (v := .slice (some ⟨b, off, none⟩) zs.length cap) rfl (by kernel_rfl) (by kernel_rfl) (by kernel_rfl) (fun _ _ _ h => h) (Or.inl ⟨by rfl, fun Wt hSw => by obtain ⟨q1, q2, q3⟩ : Wt.cell? ⟨w.heap.size, 1, none⟩ = some (.slice (some ⟨b, off, none⟩) zs.length cap) ∧ Wt.cell? ⟨b, off + v1, none⟩ = some (.int .i64 n1) ∧ Wt.cell? ⟨b, off + v2, none⟩ = some (.int .i64 n2) := hSw; go_simp⟩) (by assumption) ?_
    simp only [List.getElem_toArray, List.getElem_cons_zero, List.getElem_cons_succ, Act.put, List.setIfInBounds_toArray, List.set_cons_zero, List.set_cons_succ]
    refine wpAnyH_take (i := 7) (v := .int .i64 v2) rfl (by kernel_rfl) (by kernel_rfl) (by kernel_rfl) (fun _ _ _ h => h) (Or.inl ⟨by rfl, fun Wt hSw => by obtain ⟨q1, q2, q3⟩ : Wt.cell? ⟨w.heap.size, 1, none⟩ = some (.slice (some ⟨b, off, none⟩) zs.length cap) ∧ Wt.cell? ⟨b, off + v1, none⟩ = some (.int .i64 n1) ∧ Wt.cell? ⟨b, off + v2, none⟩ = some (.int .i64 n2) := hSw; go_simp⟩) (by assumption) ?_
    simp only [List.getElem_toArray, List.getElem_cons_zero, List.getElem_cons_succ, Act.put, List.setIfInBounds_toArray, List.set_cons_zero, List.set_cons_succ]
    refine wpAnyH_take (i := 8) (v := .pointer (some ⟨b, off + v2, none⟩)) rfl (by kernel_rfl) (by kernel_rfl) (by kernel_rfl) (fun _ _ _ h => h) (Or.inl ⟨by rfl, fun Wt hSw => by obtain ⟨q1, q2, q3⟩ : Wt.cell? ⟨w.heap.size, 1, none⟩ = some (.slice (some ⟨b, off, none⟩) zs.length cap) ∧ Wt.cell? ⟨b, off + v1, none⟩ = some (.int .i64 n1) ∧ Wt.cell? ⟨b, off + v2, none⟩ = some (.int .i64 n2) := hSw; go_simp⟩) (by assumption) ?_
    simp only [List.getElem_toArray, List.getElem_cons_zero, List.getElem_cons_succ, Act.put, List.setIfInBounds_toArray, List.set_cons_zero, List.set_cons_succ]
    refine wpAnyH_take (i := 9) (v := .int .i64 n2) rfl (by kernel_rfl) (by kernel_rfl) (by kernel_rfl) (fun _ _ _ h => h) (Or.inl ⟨by rfl, fun Wt hSw => by obtain ⟨q1, q2, q3⟩ : Wt.cell? ⟨w.heap.size, 1, none⟩ = some (.slice (some ⟨b, off, none⟩) zs.length cap) ∧ Wt.cell? ⟨b, off + v1, none⟩ = some (.int .i64 n1) ∧ Wt.cell? ⟨b, off + v2, none⟩ = some (.int .i64 n2) := hSw; go_simp⟩) (by assumption) ?_
    simp only [List.getElem_toArray, List.getElem_cons_zero, List.getElem_cons_succ, Act.put, List.setIfInBounds_toArray, List.set_cons_zero, List.set_cons_succ]
    refine wpAnyH_take (i := 10) (v := .int .i64 ((n1 &&& n2 : Nat) : Int)) rfl (by kernel_rfl) (by kernel_rfl) (by kernel_rfl) (fun _ _ _ h => h) (Or.inl ⟨by rfl, fun Wt hSw => by obtain ⟨q1, q2, q3⟩ : Wt.cell? ⟨w.heap.size, 1, none⟩ = some (.slice (some ⟨b, off, none⟩) zs.length cap) ∧ Wt.cell? ⟨b, off + v1, none⟩ = some (.int .i64 n1) ∧ Wt.cell? ⟨b, off + v2, none⟩ = some (.int .i64 n2) := hSw; go_simp⟩) (by assumption) ?_
    simp only [List.getElem_toArray, List.getElem_cons_zero, List.getElem_cons_succ, Act.put, List.setIfInBounds_toArray, List.set_cons_zero, List.set_cons_succ]
    refine wpAnyH_ready (rs := [11]) (by kernel_rfl) (by simp) ?_
    refine AllReadyH.cons rfl (fun K hK => ?_) AllReadyH.nil
    go_simp
    refine (HCO.out _).mono ?_
    rintro e w' ⟨rfl, rfl⟩
    refine hK.out _ _ (by assumption) (fun hHeld => ?_)
    clear hK K
    refine wpAnyH_ready (rs := [12]) (by kernel_rfl) (by simp) ?_
    refine AllReadyH.cons rfl (fun K hK => ?_) AllReadyH.nil
    go_simp
    refine hK.out _ _ (by assumption) (fun hHeld => ?_)
    clear hK K
    refine wpAnyH_done (by kernel_rfl) ?_ _
    refine HKK.out _ _ ?_
    clear HKK HCO hHeld
    cases hne : neB pre with
    | false =>
      obtain ⟨k1, k2⟩ := cm_first (zs := zs) (v1, v2) hne
      obtain ⟨W6, hW6⟩ : ∃ W6, W6 = (W5.drew.setCell ⟨w.heap.size + 3, 0, none⟩ (.int .i64 C)).setCell ⟨w.heap.size + 3 + 1, 0, none⟩ (.bool true) := ⟨_, rfl⟩
      have w5l : w.heap.size + 4 < W5.heap.size := h2.out.lt
      have hs6 : W6.heap.size = W5.heap.size := by rw [hW6]; simp <;> rfl
      have lo6 : ∀ k, k ≠ w.heap.size + 3 → k ≠ w.heap.size + 4 → W6.heap[k]? = W5.heap[k]? := fun k n3 n4 => by
        rw [hW6]
        exact (Below.heap_setCell _ _ _ k (by simp; omega)).trans ((Below.heap_setCell _ _ _ k (by simp; omega)).trans rfl)
      have hkf : KeepsFrom Wm.heap.size W5 W6 := ⟨by omega, fun k o hk ho _ => (lo6 k (by omega) (by omega)).trans ho⟩
      have b3 : Bx (W5.drew.setCell ⟨w.heap.size + 3, 0, none⟩ (.int .i64 C)) (w.heap.size + 3) 2 (.int .i64 C) := Bx.set (W := W5.drew) (show Bx W5.drew _ _ _ from h1.out) _
      have b4 : Bx (W5.drew.setCell ⟨w.heap.size + 3, 0, none⟩ (.int .i64 C)) (w.heap.size + 4) 4 (.bool (neB pre)) := (Below.heap_setCell _ _ _ _ (by simp)).trans (show Bx W5.drew _ _ _ from h2.out)
      have HI6 : Hid (Hid (Bx W6 (w.heap.size + 3) 2 (.int .i64 (cmN zs (pre ++ [(v1, v2)])))) ∧ Hid (Bx W6 (w.heap.size + 4) 4 (.bool (neB (pre ++ [(v1, v2)])))) ∧ Hid (Bx W6 (w.heap.size + 1) 2 (.int .i64 0)) ∧ Hid (Bx W6 (w.heap.size + 2) 4 (.bool false)) ∧ Below w.heap.size w W6 ∧ Wm.heap.size ≤ W6.heap.size ∧ Hid (W6.heap[w.heap.size]? = some (.cells #[.int .i64 zs.length, .slice (some ⟨b, off, none⟩) zs.length cap] 26 (0, 0))) ∧ Hid (∀ k, k ∈ A → k < W6.heap.size)) := by
        refine ⟨?_, ?_, (lo6 _ (by omega) (by omega)).trans h3.out, (lo6 _ (by omega) (by omega)).trans h4.out, ?_, by omega, (lo6 _ (by omega) (by omega)).trans h7.out, fun k hk => by rw [hs6]; exact h9.out k hk⟩
        · show Bx _ _ _ _
          rw [k2, hcf, hW6]
          exact (Below.heap_setCell _ _ _ _ (by simp)).trans b3
        · show Bx _ _ _ _
          rw [neB_snoc, hW6]
          exact Bx.set b4 _
        · rw [hW6]; exact ((h5.drew).setCell (p := ⟨w.heap.size + 3, 0, none⟩) (by simp) _).setCell (p := ⟨w.heap.size + 3 + 1, 0, none⟩) (by simp; omega) _
      have HKP : Hid (∀ k, k ∈ A → W6.heap[k]? = W5.heap[k]?) := fun k hk => lo6 k (by have := hAl k hk; omega) (by have := hAl k hk; omega)
      have HKF := Lib.hid hkf
      have HAL := Lib.hid k1
      have c6 := h1.out.cell; have f6 := h1.out.frozen; have c7 := h2.out.cell; have f7 := h2.out.frozen
      have d7 := b4.cell; have g7 := b4.frozen
      rw [hne] at c7 d7
      clear hkf lo6 b3 b4 hs6 h3 h4 h7 h9 h5 h6
      gi_wp2
      subst hW6
      exact ⟨HKF.out, ⟨trivial, HKP.out⟩, HI6.out.1, HI6.out.2.1, HI6.out.2.2.1, HI6.out.2.2.2.1, HI6.out.2.2.2.2.1, HI6.out.2.2.2.2.2.1, HI6.out.2.2.2.2.2.2.1, HAL.out, HI6.out.2.2.2.2.2.2.2⟩
    | true =>
      generalize hN : cmN zs pre = N at *
      by_cases heq : C = N
      · subst heq
        obtain ⟨k1, k2⟩ := cm_yes h8 hne (hcf.trans hN.symm)
        clear hN
        obtain ⟨W6, hW6⟩ : ∃ W6, W6 = (W5.drew.setCell ⟨w.heap.size + 3, 0, none⟩ (.int .i64 C)).setCell ⟨w.heap.size + 3 + 1, 0, none⟩ (.bool true) := ⟨_, rfl⟩
        have w5l : w.heap.size + 4 < W5.heap.size := h2.out.lt
        have hs6 : W6.heap.size = W5.heap.size := by rw [hW6]; simp <;> rfl
        have lo6 : ∀ k, k ≠ w.heap.size + 3 → k ≠ w.heap.size + 4 → W6.heap[k]? = W5.heap[k]? := fun k n3 n4 => by
          rw [hW6]
          exact (Below.heap_setCell _ _ _ k (by simp; omega)).trans ((Below.heap_setCell _ _ _ k (by simp; omega)).trans rfl)
        have hkf : KeepsFrom Wm.heap.size W5 W6 := ⟨by omega, fun k o hk ho _ => (lo6 k (by omega) (by omega)).trans ho⟩
        have b3 : Bx (W5.drew.setCell ⟨w.heap.size + 3, 0, none⟩ (.int .i64 C)) (w.heap.size + 3) 2 (.int .i64 C) := Bx.set (W := W5.drew) (show Bx W5.drew _ _ _ from h1.out) _
        have b4 : Bx (W5.drew.setCell ⟨w.heap.size + 3, 0, none⟩ (.int .i64 C)) (w.heap.size + 4) 4 (.bool (neB pre)) := (Below.heap_setCell _ _ _ _ (by simp)).trans (show Bx W5.drew _ _ _ from h2.out)
        have HI6 : Hid (Hid (Bx W6 (w.heap.size + 3) 2 (.int .i64 (cmN zs (pre ++ [(v1, v2)])))) ∧ Hid (Bx W6 (w.heap.size + 4) 4 (.bool (neB (pre ++ [(v1, v2)])))) ∧ Hid (Bx W6 (w.heap.size + 1) 2 (.int .i64 0)) ∧ Hid (Bx W6 (w.heap.size + 2) 4 (.bool false)) ∧ Below w.heap.size w W6 ∧ Wm.heap.size ≤ W6.heap.size ∧ Hid (W6.heap[w.heap.size]? = some (.cells #[.int .i64 zs.length, .slice (some ⟨b, off, none⟩) zs.length cap] 26 (0, 0))) ∧ Hid (∀ k, k ∈ A → k < W6.heap.size)) := by
          refine ⟨?_, ?_, (lo6 _ (by omega) (by omega)).trans h3.out, (lo6 _ (by omega) (by omega)).trans h4.out, ?_, by omega, (lo6 _ (by omega) (by omega)).trans h7.out, fun k hk => by rw [hs6]; exact h9.out k hk⟩
          · show Bx _ _ _ _
            rw [k2, hcf, hW6]
            exact (Below.heap_setCell _ _ _ _ (by simp)).trans b3
          · show Bx _ _ _ _
            rw [neB_snoc, hW6]
            exact Bx.set b4 _
          · rw [hW6]; exact ((h5.drew).setCell (p := ⟨w.heap.size + 3, 0, none⟩) (by simp) _).setCell (p := ⟨w.heap.size + 3 + 1, 0, none⟩) (by simp; omega) _
        have HKP : Hid (∀ k, k ∈ A → W6.heap[k]? = W5.heap[k]?) := fun k hk => lo6 k (by have := hAl k hk; omega) (by have := hAl k hk; omega)
        have HKF := Lib.hid hkf
        have HAL := Lib.hid k1
        have c6 := h1.out.cell; have f6 := h1.out.frozen; have c7 := h2.out.cell; have f7 := h2.out.frozen
        have d7 := b4.cell; have g7 := b4.frozen
        rw [hne] at c7 d7
        clear hkf lo6 b3 b4 hs6 h3 h4 h7 h9 h5 h6
        gi_wp2
        subst hW6
        exact ⟨HKF.out, ⟨trivial, HKP.out⟩, HI6.out.1, HI6.out.2.1, HI6.out.2.2.1, HI6.out.2.2.2.1, HI6.out.2.2.2.2.1, HI6.out.2.2.2.2.2.1, HI6.out.2.2.2.2.2.2.1, HAL.out, HI6.out.2.2.2.2.2.2.2⟩
      · have hnb : ((C : Int) != (N : Int)) = true := by simp; omega
        have hni : ¬ (C : Int) = (N : Int) := by omega
        have hno := cm_no hne (fun e => heq (hcf.symm.trans (e.trans hN))) HNX.out
        clear hN
        obtain ⟨W6, hW6⟩ : ∃ W6, W6 = (W5.drew.setCell ⟨w.heap.size + 1, 0, none⟩ (.int .i64 0)).setCell ⟨w.heap.size + 1 + 1, 0, none⟩ (.bool false) := ⟨_, rfl⟩
        have w5l : w.heap.size + 4 < W5.heap.size := h2.out.lt
        have hs6 : W6.heap.size = W5.heap.size := by rw [hW6]; simp <;> rfl
        have lo6 : ∀ k, k ≠ w.heap.size + 1 → k ≠ w.heap.size + 2 → W6.heap[k]? = W5.heap[k]? := fun k n3 n4 => by
          rw [hW6]
          exact (Below.heap_setCell _ _ _ k (by simp; omega)).trans ((Below.heap_setCell _ _ _ k (by simp; omega)).trans rfl)
        have hkf : KeepsFrom Wm.heap.size W5 W6 := ⟨by omega, fun k o hk ho _ => (lo6 k (by omega) (by omega)).trans ho⟩
        have b3 : Bx (W5.drew.setCell ⟨w.heap.size + 1, 0, none⟩ (.int .i64 0)) (w.heap.size + 1) 2 (.int .i64 0) := Bx.set (W := W5.drew) (show Bx W5.drew _ _ _ from h3.out) _
        have b4 : Bx (W5.drew.setCell ⟨w.heap.size + 1, 0, none⟩ (.int .i64 0)) (w.heap.size + 2) 4 (.bool false) := (Below.heap_setCell _ _ _ _ (by simp)).trans (show Bx W5.drew _ _ _ from h4.out)
        have q1 : Hid (Bx W6 (w.heap.size + 1) 2 (.int .i64 0)) := by show Bx _ _ _ _; rw [hW6]; exact (Below.heap_setCell _ _ _ _ (by simp)).trans b3
        have q2 : Hid (Bx W6 (w.heap.size + 2) 4 (.bool false)) := by show Bx _ _ _ _; rw [hW6]; exact Bx.set b4 _
        have q3 : Below w.heap.size w W6 := by rw [hW6]; exact ((h5.drew).setCell (p := ⟨w.heap.size + 1, 0, none⟩) (by simp) _).setCell (p := ⟨w.heap.size + 1 + 1, 0, none⟩) (by simp; omega) _
        have HKF := Lib.hid hkf
        have HNO := Lib.hid hno
        have HQ3 := Lib.hid q3
        have s6 : Wm.heap.size ≤ W6.heap.size := by omega
        have c6 := h1.out.cell; have c7 := h2.out.cell
        rw [hne] at c7
        have c4 := h3.out.cell; have f4 := h3.out.frozen; have c5 := h4.out.cell; have f5 := h4.out.frozen; have d5 := b4.cell; have g5 := b4.frozen
        clear hkf lo6 b3 b4 hs6 h7 h9 h5 h6 hno q3
        gi_wp2
        subst hW6
        exact ⟨HKF.out, rfl, HNO.out, q1, q2, HQ3.out, s6⟩
  case done =>
    rintro D A ys W2 hDD rfl ⟨h1, h2, h3, h4, h5, h6, h7, h8, h9⟩ hK
    have hmix := mixedC
    have HFA : Hid (alk zs (edL zs2) = true) := h8
    have c6 := h1.out.cell; have c7 := h2.out.cell; have c4 := h3.out.cell; have f4 := h3.out.frozen; have c5 := h4.out.cell; have f5 := h4.out.frozen
    clear h7 h9 h8
    generalize hCM : cmN zs (edL zs2) = CM at *
    generalize hNB : neB (edL zs2) = NB at *
    have HCM := Lib.hid hCM; have HNB := Lib.hid hNB
    clear hCM hNB
    gi_wp2_with fail
    gi_region_with_o (fail)
    all_goals
      gi_wp2_with fail
      obtain ⟨W3, hW3⟩ : ∃ W3, W3 = ((W2.setCell ⟨w.heap.size + 1, 0, none⟩ (.int .i64 CM)).setCell ⟨w.heap.size + 1 + 1, 0, none⟩ (.bool NB)).drew := ⟨_, rfl⟩
      have k2 : Bx (W2.setCell ⟨w.heap.size + 1, 0, none⟩ (.int .i64 CM)) (w.heap.size + 2) 4 (.bool false) := (Below.heap_setCell _ _ _ _ (by simp)).trans h4.out
      have n1 : Bx W3 (w.heap.size + 1) 2 (.int .i64 CM) := by rw [hW3]; exact (Below.heap_setCell _ _ _ _ (by simp)).trans (h3.out.set _)
      have n2 : Bx W3 (w.heap.size + 2) 4 (.bool NB) := by rw [hW3]; exact k2.set _
      have hB3 : Below w.heap.size w W3 := by rw [hW3]; exact ((h5.setCell (p := ⟨w.heap.size + 1, 0, none⟩) (by simp) _).setCell (p := ⟨w.heap.size + 1 + 1, 0, none⟩) (by simp; omega) _).drew
      have hK3 : W3.heap[D]? = some (.deferred (some [])) := by rw [hW3]; exact (Below.heap_setCell _ _ _ _ (by simp; omega)).trans ((Below.heap_setCell _ _ _ _ (by simp; omega)).trans hK)
      show bodyPostM _ _ _ _ _ _ _ (((W2.setCell ⟨w.heap.size + 1, 0, none⟩ (.int .i64 CM)).setCell ⟨w.heap.size + 1 + 1, 0, none⟩ (.bool NB)).drew)
      rw [← hW3]
      clear hW3 k2 c4 f4 c5 f5 c6 c7
      refine leaves_marks (H := Wm.heap.size) [D] _ ⟨by simp, fun E hE => ?_⟩ fun W' hss hb' => ?_
      · obtain rfl : E = D := by simpa using hE
        exact ⟨hDD, hK3⟩
      · have m1 : Bx W' (w.heap.size + 1) 2 (.int .i64 CM) := (hb'.block _ (by omega)).trans n1
        have m2 : Bx W' (w.heap.size + 2) 4 (.bool NB) := (hb'.block _ (by omega)).trans n2
        exact ⟨_, results_2cellsC (p := 4) (u := 5) (ty := 2) (tu := 4) rfl _ W' (w.heap.size + 1) (w.heap.size + 2) _ _ rfl rfl m1.cell m2.cell Tryd.underlying2 rfl Tryd.underlying4 rfl, by unfold cmR cmB; rw [if_pos HFA.out, HFA.out, HNB.out, HCM.out]; simp, hB3.trans (hb'.mono (by omega))⟩
  case stop =>
    rintro D cd pre W2 hDD _ ⟨rfl, hno, h1, h2, h3, h4⟩ hK
    gi_wp2
    refine leaves_marks (H := Wm.heap.size) [D] _ ⟨by simp, fun E hE => ?_⟩ fun W' hss hb' => ?_
    · obtain rfl : E = D := by simpa using hE
      exact ⟨hDD, hK⟩
    · have m1 : Bx W' (w.heap.size + 1) 2 (.int .i64 0) := (hb'.block _ (by omega)).trans h1.out
      have m2 : Bx W' (w.heap.size + 2) 4 (.bool false) := (hb'.block _ (by omega)).trans h2.out
      exact ⟨_, results_2cellsC (p := 4) (u := 5) (ty := 2) (tu := 4) rfl _ W' (w.heap.size + 1) (w.heap.size + 2) _ _ rfl rfl m1.cell m2.cell Tryd.underlying2 rfl Tryd.underlying4 rfl, by simp [cmR, cmB, hno], h3.trans (hb'.mono (by omega))⟩
end Go.Proofs.YthlchifmmmnagaaDoor
