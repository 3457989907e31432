/-
  impl.turnedRows: the rows read by columns.
-/
import Derived.Test.YtlodaeoikkjbkaaDoorArr
import Derived.Deep.MidRow
namespace Go.Proofs.YtlodaeoikkjbkaaDoor
set_option maxRecDepth 100000
open Go.RowKit Go.Shelf

attribute [local go_sem] Oper.semAt_some

/-- Block B is an array of 62 numbers. -/
def ArrB (W : World) (B : Nat) (f : Nat → Int) : Prop := W.heap[B]? = some (.cells (rowsA f) 75 (0, 0))

/-- The marks of loops over iterators among an activation's deferred calls. -/
def marks (Ds : List Nat) : List Deferred := Ds.map fun D => { target := .collected D, args := #[] }
/-- The blocks of such marks, each there once, each with no call in it. -/
def DsOk (H : Nat) (W : World) (Ds : List Nat) : Prop := Ds.Nodup ∧ ∀ D, D ∈ Ds → H ≤ D ∧ W.heap[D]? = some (.deferred (some []))

/-- Column j of the first v rows. -/
def tcol (f : Nat → Nat) : Nat → Nat → Nat
  | 0, _ => 0
  | v + 1, j => if (f v).testBit j then tcol f v j ||| 2 ^ v else tcol f v j

/-- Column j while row v is being read. -/
def tpre (f : Nat → Nat) (v : Nat) (pre : List Nat) (j : Nat) : Nat := if j ∈ pre then tcol f v j ||| 2 ^ v else tcol f v j

theorem ArrB.range {W : World} {B : Nat} {f : Nat → Int} (h : W.heap[B]? = some (.cells (rowsA f) 75 (0, 0))) : W.rangeAt B 0 (rowsL f) := fun j v hv => by
  rw [cell_of_row W B (0 + j) _ _ _ h, Nat.zero_add]
  unfold rowsA
  simpa using hv
theorem ArrB.lt {W : World} {B : Nat} {f : Nat → Int} (h : ArrB W B f) : B < W.heap.size := (Array.getElem?_eq_some_iff.1 h).1
theorem ArrB.cell {W : World} {B : Nat} {f : Nat → Int} (h : ArrB W B f) {j : Nat} (hj : j < 62) : W.cell? ⟨B, j, none⟩ = some (.int .i64 (f j)) := by
  rw [cell_of_row W B j _ _ _ h]; exact rowsA_at f j hj
theorem ArrB.frozen {W : World} {B : Nat} {f : Nat → Int} (h : ArrB W B f) (j : Nat) : W.frozen? ⟨B, j, none⟩ = false := frozen_of_row W B j _ _ h
theorem ArrB.alloc {W : World} {B : Nat} {f : Nat → Int} (h : ArrB W B f) (o : Obj) : ArrB (W.alloc o) B f := (Below.heap_alloc W o B h.lt).trans h
theorem ArrB.other {W : World} {B : Nat} {f : Nat → Int} (h : ArrB W B f) {a : Addr} (ha : B ≠ a.block) (v : Value) : ArrB (W.setCell a v) B f := (Below.heap_setCell W a v B ha).trans h
theorem ArrB.congr {W : World} {B : Nat} {f g : Nat → Int} (h : ArrB W B f) (e : ∀ i, i < 62 → f i = g i) : ArrB W B g := by
  have : rowsA f = rowsA g := by unfold rowsA rowsL; congr 1; exact List.map_congr_left fun i hi => by rw [e i (List.mem_range.1 hi)]
  unfold ArrB at *; rw [← this]; exact h
theorem ArrB.set {W : World} {B : Nat} {f : Nat → Int} (h : ArrB W B f) {j : Nat} (hj : j < 62) (n : Int) : ArrB (W.setCell ⟨B, j, none⟩ (.int .i64 n)) B (fun i => if i = j then n else f i) := by
  unfold ArrB at *
  rw [heap_setCell_same W B j _ _ _ h]
  congr 2
  apply Array.ext_getElem?
  intro i
  by_cases hi : i < 62
  · rw [rowsA_at _ i hi, Array.getElem?_setIfInBounds]
    by_cases hij : j = i
    · subst hij; simp [rowsA_size, hj]
    · have : i ≠ j := fun e => hij e.symm
      simp [hij, this, rowsA_at f i hi]
  · rw [Array.getElem?_eq_none (by rw [Array.size_setIfInBounds, rowsA_size]; omega), Array.getElem?_eq_none (by rw [rowsA_size]; omega)]
theorem kept_block {W W' : World} {row : Option Nat} {B k : Nat} {o : Obj} (hg : W.grownBy W' row) (hr : ∀ r, row = some r → B ≤ r ∧ ∃ o : Obj, W.heap[r]? = some o ∧ o.isCells = false) (hk : k < B) (h : W.heap[k]? = some o) : W'.heap[k]? = some o :=
  (hg.block k (Array.getElem?_eq_some_iff.1 h).1 (fun e => by have := (hr k e.symm).1; omega)).trans h
theorem DsOk.alloc {H : Nat} {W : World} {Ds : List Nat} (h : DsOk H W Ds) (o : Obj) : DsOk H (W.alloc o) Ds :=
  ⟨h.1, fun D hD => ⟨(h.2 D hD).1, (Below.heap_alloc W o D (Array.getElem?_eq_some_iff.1 (h.2 D hD).2).1).trans (h.2 D hD).2⟩⟩
theorem DsOk.kept {H : Nat} {W W' : World} {Ds : List Nat} (h : DsOk H W Ds) (hk : ∀ D, D ∈ Ds → W'.heap[D]? = W.heap[D]?) : DsOk H W' Ds :=
  ⟨h.1, fun D hD => ⟨(h.2 D hD).1, (hk D hD).trans (h.2 D hD).2⟩⟩

theorem ArrB.setRow {W : World} {B : Nat} {f : Nat → Int} (h : ArrB W B f) (g : Nat → Int) : ArrB (W.setRow B (rowsA g)) B g := by
  unfold ArrB at *
  simp only [World.setRow, Array.getElem?_modify, if_true, h]
  rfl
theorem heap_setRow_other (W : World) (B k : Nat) (cs : Array Value) (hk : k ≠ B) : (W.setRow B cs).heap[k]? = W.heap[k]? := by
  simp only [World.setRow, Array.getElem?_modify]
  rw [if_neg (fun e => hk e.symm)]
theorem setRow_below {H B : Nat} {W : World} (hB : H ≤ B) (cs : Array Value) : Below H W (W.setRow B cs) :=
  ⟨rfl, rfl, rfl, by simp, fun k hk => heap_setRow_other W B k cs (by omega)⟩

/-- A function that returns with marks alone among its deferred calls. -/
theorem leaves_marks {F : Fence} {n : Nat} {P : Program} {fn : Func} {tmps : Array Value} {R : Ending → World → Prop} {H : Nat} : ∀ (Ds : List Nat) (W : World), DsOk H W Ds →
    (∀ W', (∀ k, k ∉ Ds → W'.heap[k]? = W.heap[k]?) → Below H W W' → LeavesIn F n P fn tmps R [] .returning W') → LeavesInM F n P fn tmps R (marks Ds) .returning W
  | [], W, _, h => h W (fun _ _ => rfl) (Below.refl _ _)
  | D :: Ds, W, hD, h => by
    have h1 := hD.2 D List.mem_cons_self
    refine ⟨by simp, .inl ⟨D, _, rfl, run_takeDeferred h1.2, ?_⟩⟩
    have hnd := List.nodup_cons.1 hD.1
    have hlt := (Array.getElem?_eq_some_iff.1 h1.2).1
    have hp : ∀ k, k ≠ D → (W.putObj D (.deferred none)).heap[k]? = W.heap[k]? := fun k hk => World.putObj_heap_other hk
    have hb : Below H W (W.putObj D (.deferred none)) := (Below.refl H W).grown (grownBy_putObj' W D (.deferred none)) (by omega) (fun k e => by cases e; exact h1.1)
    refine leaves_marks Ds _ ⟨hnd.2, fun E hE => ⟨(hD.2 E (List.mem_cons_of_mem _ hE)).1, (hp E (fun e => hnd.1 (e ▸ hE))).trans (hD.2 E (List.mem_cons_of_mem _ hE)).2⟩⟩ fun W' h2 h3 => ?_
    exact h W' (fun k hk => (h2 k (fun e => hk (List.mem_cons_of_mem _ e))).trans (hp k (fun e => hk (e ▸ List.mem_cons_self)))) (hb.trans h3)

theorem tpre_step (f : Nat → Nat) (v : Nat) (pre : List Nat) (y : Nat) : tpre f v pre y ||| 2 ^ v = tpre f v (pre ++ [y]) y := by
  unfold tpre
  have : y ∈ pre ++ [y] := by simp
  rw [if_pos this]
  split
  · rw [Nat.or_assoc, Nat.or_self]
  · rfl
theorem tpre_other (f : Nat → Nat) (v : Nat) (pre : List Nat) (y i : Nat) (h : i ≠ y) : tpre f v (pre ++ [y]) i = tpre f v pre i := by
  unfold tpre; simp [h]
theorem tpre_nil (f : Nat → Nat) (v i : Nat) : tpre f v [] i = tcol f v i := by unfold tpre; simp
theorem tpre_all (f : Nat → Nat) (v i : Nat) (h : i < 62) : tpre f v (mem (f v)) i = tcol f (v + 1) i := by
  unfold tpre; rw [tcol]
  by_cases hb : (f v).testBit i = true
  · rw [if_pos (mem_iff.2 ⟨by omega, hb⟩), if_pos hb]
  · rw [if_neg (fun e => hb (mem_iff.1 e).2), if_neg hb]
theorem mem_lt62 {x j : Nat} (hx : x < 4611686018427387904) (h : j ∈ mem x) : j < 62 := by
  have hb := (mem_iff.1 h).2
  refine Nat.lt_of_not_le fun hle => ?_
  have h2 : 2 ^ j ≤ x := Nat.ge_two_pow_of_testBit hb
  have h3 : 2 ^ 62 ≤ 2 ^ j := Nat.pow_le_pow_right (by decide) hle
  omega

theorem mixed : Tryd.prog.follows Departure.mixedOrders = true := by kernel_rfl
theorem or_pow (a v : Nat) (ha : a < 2 ^ 63) (hv : v < 62) : bits BinOp.or IntKind.i64 (a : Int) (IntKind.i64.wrap (2 ^ v)) = ((a ||| 2 ^ v : Nat) : Int) := by
  have e := i64_pow (v : Int) (by omega)
  rw [Int.toNat_natCast] at e
  have h1 : 2 ^ v < 2 ^ 63 := Nat.pow_lt_pow_right (by decide) (by omega)
  rw [e, show ((2 : Int) ^ v) = ((2 ^ v : Nat) : Int) by simp]
  exact or_i64 _ _ ha h1
theorem tcol_lt (f : Nat → Nat) (j : Nat) : ∀ v, tcol f v j < 2 ^ v
  | 0 => by simp [tcol]
  | v + 1 => by
    have := tcol_lt f j v
    rw [tcol, Nat.pow_succ]
    split
    · have h := Nat.or_lt_two_pow (x := tcol f v j) (y := 2 ^ v) (n := v + 1) (by rw [Nat.pow_succ]; omega) (by rw [Nat.pow_succ]; have := Nat.two_pow_pos v; omega)
      rw [Nat.pow_succ] at h; exact h
    · omega

theorem tpre_lt (f : Nat → Nat) (v : Nat) (pre : List Nat) (j : Nat) (hv : v < 62) : tpre f v pre j < 2 ^ 63 := by
  have h1 := tcol_lt f j v
  have h2 : 2 ^ v < 2 ^ 63 := Nat.pow_lt_pow_right (by decide) (by omega)
  unfold tpre
  split
  · exact Nat.or_lt_two_pow (Nat.lt_trans h1 h2) h2
  · exact Nat.lt_trans h1 h2

theorem at_world {F : Fence} {n : Nat} {P : Program} {c : Code} {Q : Exit → Act → World → Prop} {a : Act} {w w' : World} (h : c.wpIn F n P Q a w') (e : w = w') : c.wpIn F n P Q a w := e ▸ h

set_option maxRecDepth 100000 in
set_option maxHeartbeats 2000000 in
theorem turned_in (f : Nat → Nat) (hf : ∀ i, i < 62 → f i < 4611686018427387904) (w : World) (hT : Tab w) :
    CallsIn Fence.wide 5 Tryd.prog 66 #[.agg (rowsA fun i => f i)] w fun e w' => e = .returned (.agg (rowsA fun j => tcol f 62 j)) ∧ Below w.heap.size w w' := by
  refine callsIn_of_wp_marks Tryd.func66 rfl trivial ?_ rfl
  simp only [Tryd.ntmps66, List.size_toArray, List.length_cons, List.length_nil, Nat.reduceAdd, Nat.reduceSub, Array.replicate_succ, Array.replicate_zero, List.push_toArray, List.append_toArray, List.nil_append, List.cons_append]
  gi_wp2_with (refine wpListIn_load_row rfl 75 _ rfl w.heap.size rfl 75 (rowsA fun i => f i) (0, 0) _ ?_ Tryd.underlying75 rfl (by rw [rowsA_size]; exact info59) ?_)
  · exact (Below.heap_alloc _ _ _ (by simp; omega)).trans ((Below.heap_alloc _ _ _ (by simp)).trans (World.alloc_heap_new w _))
  refine at_world (w' := ((w.alloc (.cells (rowsA fun i => f i) 75)).alloc (.cells (rowsA fun _ => 0) 75)).alloc (.cells (rowsA fun _ => 0) 75)) ?_ (by rfl)
  refine wpIn_loop (fun a W => ∃ (v : Nat) (Ds : List Nat) (u4 u5 u6 u9 u10 u11 u12 u13 u14 u15 u16 u17 u18 u19 u20 u21 u22 u23 : Value), a = { tmps := #[.agg (rowsA fun i => f i), .pointer (some ⟨w.heap.size, 0, none⟩), .pointer (some ⟨w.heap.size + 1, 0, none⟩), .pointer (some ⟨w.heap.size + 1 + 1, 0, none⟩), u4, u5, u6, .agg (rowsA fun i => f i), .int .i64 v, u9, u10, u11, u12, u13, u14, u15, u16, u17, u18, u19, u20, u21, u22, u23], defers := marks Ds } ∧
      v ≤ 62 ∧ ArrB W (w.heap.size + 2) (fun j => tcol f v j) ∧ ArrB W (w.heap.size + 1) (fun _ => 0) ∧ Below w.heap.size w W ∧ DsOk (w.heap.size + 3) W Ds) (fun a _ => 62 - (intOf (a.tmps.getD 8 undef)).toNat) ?h0 ?round
  case h0 =>
    refine ⟨0, [], _, _, _, _, _, _, _, _, _, _, _, _, _, _, _, _, _, _, rfl, by omega, ?_, ?_, ?_, List.nodup_nil, by simp⟩
    · exact (show ArrB _ _ (fun _ => 0) by have := World.alloc_heap_new ((w.alloc (.cells (rowsA fun i => f i) 75)).alloc (.cells (rowsA fun _ => 0) 75)) (.cells (rowsA fun _ => 0) 75); simpa [ArrB] using this).congr (fun i _ => by simp [tcol])
    · exact (show ArrB _ _ (fun _ => 0) by have := World.alloc_heap_new (w.alloc (.cells (rowsA fun i => f i) 75)) (.cells (rowsA fun _ => 0) 75); simpa [ArrB] using this).alloc _
    · exact (((Below.refl _ w).alloc (Nat.le_refl _) _).alloc (by simp) _).alloc (by simp; omega) _
  case round =>
    rintro a W ⟨v, Ds, u4, u5, u6, u9, u10, u11, u12, u13, u14, u15, u16, u17, u18, u19, u20, u21, u22, u23, rfl, hv, hA, hR, hB, hD⟩
    by_cases hv62 : v < 62
    · have hix := run_index_rows (fun i => f i) v hv62
      have HA := Lib.hid hA
      have HR := Lib.hid hR
      clear hA hR
      gi_wp2_with (refine ⟨trivial, ?_⟩; gi_at_call 42; refine (callsIn_wide.2 (membersOf_any _ _)).mono ?_; rintro e w' ⟨rfl, rfl⟩)
      clear hix
      have hHW : w.heap.size + 2 < W.heap.size := HA.out.lt
      obtain ⟨W1, hW1⟩ : ∃ W1, W1 = (W.alloc (.cells #[.int .i64 v] 3)).alloc (.cells #[.int .i64 (f v)] 2) := ⟨_, rfl⟩
      refine at_world (w' := W1) ?_ hW1.symm
      have hs1 : W1.heap.size = W.heap.size + 2 := by rw [hW1]; simp
      have hb1 : Boxed W1 W.heap.size 3 (.int .i64 v) := by rw [hW1]; exact (Boxed.new W 3 _).alloc _
      have hc1 : W1.cell? ⟨W.heap.size + 1, 0, none⟩ = some (.int .i64 (f v)) := by rw [hW1]; have := World.cell?_alloc_new (w := W.alloc (.cells #[.int .i64 v] 3)) #[.int .i64 (f v)] 2 0; rw [World.size_alloc] at this; rw [this]; rfl
      have hB1 : Below w.heap.size w W1 := by rw [hW1]; exact (hB.alloc (by omega) _).alloc (by simp; omega) _
      have hT1 : Tab W1 := hT.belowAll hB1
      have hA1 : ArrB W1 (w.heap.size + 2) (fun j => tcol f v j) := by rw [hW1]; exact (HA.out.alloc _).alloc _
      have hR1 : ArrB W1 (w.heap.size + 1) (fun _ => 0) := by rw [hW1]; exact (HR.out.alloc _).alloc _
      have hD1 : DsOk (w.heap.size + 3) W1 Ds := by rw [hW1]; exact (hD.alloc _).alloc _
      have h0 := hT.lt
      clear hD
      refine wpIn_rangeFunc_ownF rfl (by omega) (gf := 67) (lb := #[.pointer (some ⟨W.heap.size + 1, 0, none⟩)]) rfl trivial (enters_of Tryd.func67 (by kernel_rfl) rfl)
        (members_stops 4 (by omega) (W.heap.size + 1) w.heap.size (f v) (by have := hf v hv62; omega) W1 (by omega) hc1 hT1 h0) belowK_t (belowK_b (by omega)) (Below.refl _ _) (fun _ => rfl)
        (fun pre W' => ArrB W' (w.heap.size + 2) (fun j => tpre f v (pre.unattach) j) ∧ Boxed W' W.heap.size 3 (.int .i64 v) ∧ ArrB W' (w.heap.size + 1) (fun _ => 0) ∧ (∀ D, D ∈ Ds → W'.heap[D]? = some (.deferred (some []))) ∧ Below w.heap.size w W')
        (fun _ _ _ => False)
        ?hI (fun _ _ _ _ _ hs _ _ => hs) ?h0 (fun y => { tmps := #[.agg (rowsA fun i => f i), .pointer (some ⟨w.heap.size, 0, none⟩), .pointer (some ⟨w.heap.size + 1, 0, none⟩), .pointer (some ⟨w.heap.size + 1 + 1, 0, none⟩), .pointer (some ⟨W.heap.size, 0, none⟩), .int .i64 (f v), .int .i64 y.1, .agg (rowsA fun i => f i), .int .i64 v, .bool true, .int .i64 v, .int .i64 (f v), .int .i64 (f v), .func (.func 67) #[] #[.pointer (some ⟨W.heap.size + 1, 0, none⟩)], .int .i64 y.1, u15, u16, u17, u18, u19, u20, u21, u22, u23], defers := [] }) ?assign ?body ?done ?stop
      case hI =>
        intro pre A B row hs hg hr
        have h2 : w.heap.size + 2 < W1.heap.size := by omega
        refine ⟨kept_block hg hr h2 hs.1, kept_block hg hr (by omega) hs.2.1, kept_block hg hr (by omega) hs.2.2.1, fun D hD => kept_block hg hr ?_ (hs.2.2.2.1 D hD), ?_⟩
        · exact (Array.getElem?_eq_some_iff.1 (hD1.2 D hD).2).1
        · exact hs.2.2.2.2.grown hg hs.2.2.2.2.size (fun k e => by have := (hr k e).1; omega)
      case h0 =>
        exact ⟨hA1.congr (fun i _ => by rw [show List.unattach ([] : List (Mem (f v))) = [] from rfl, tpre_nil]), hb1, hR1, fun D hD => (hD1.2 D hD).2, hB1⟩
      case assign =>
        intro l x W K hK
        gi_wp2
        exact hK
      case body =>
        rintro l pre y W' ⟨hA', hv', hR', hD', hB'⟩ _
        have hy62 : y.1 < 62 := mem_lt62 (hf v hv62) y.2
        have hor := Lib.hid (or_pow (tpre f v pre.unattach y.1) v (tpre_lt f v _ _ hv62) hv62)
        have ca := hA'.cell hy62
        have cf := hA'.frozen y.1
        have cv := hv'.cell
        have hy0 : (0 : Int) ≤ y.1 := by omega
        have hy1 : (y.1 : Int) < 62 := by omega
        have hv0 : (0 : Int) ≤ v := by omega
        gi_wp2
        have hm : Tryd.prog.follows Departure.mixedOrders = true := mixed
        gi_region_with_o (fail)
        all_goals
          refine ⟨(KeepsOthers.setCell _ _ _).trans (KeepsOthers.drew _), ?_, ?_, ?_, ?_, ?_, ?_⟩
          · exact ((Below.refl _ _).setCell (p := ⟨w.heap.size + 2, y.1, none⟩) (by simp) _).drew
          · rw [hor.out, tpre_step, List.unattach_append]
            exact (hA'.set hy62 _).congr (fun i hi => by
              by_cases hiy : i = y.1
              · subst hiy; simp
              · rw [if_neg hiy]
                show _ = ((tpre f v (pre.unattach ++ [y.1]) i : Nat) : Int)
                rw [tpre_other _ _ _ _ _ hiy])
          · exact (Below.heap_setCell _ _ _ _ (by simp; omega)).trans hv'
          · exact hR'.other (by simp) _
          · exact fun D hD => (Below.heap_setCell _ _ _ _ (by have := (hD1.2 D hD).1; simp; omega)).trans (hD' D hD)
          · exact (hB'.setCell (p := ⟨w.heap.size + 2, y.1, none⟩) (by simp) _).drew
      case done =>
        rintro D ys W2 hDD rfl ⟨hA', hv', hR', hD', hB'⟩ hK
        gi_wp2
        refine ⟨⟨v + 1, D :: Ds, _, _, _, _, _, _, _, _, _, _, _, _, _, _, _, _, _, _, rfl, by omega, hA'.congr (fun i hi => ?_), hR', hB', ?_⟩, ?_⟩
        · show ((tpre f v (memL (f v)).unattach i : Nat) : Int) = _
          rw [show (memL (f v)).unattach = mem (f v) from memL_val _, tpre_all f v i hi]
        · refine ⟨List.nodup_cons.2 ⟨fun hDD' => ?_, hD1.1⟩, fun E hE => ?_⟩
          · have := (Array.getElem?_eq_some_iff.1 (hD1.2 D hDD').2).1; omega
          · rcases List.mem_cons.1 hE with rfl | hE
            · exact ⟨by omega, hK⟩
            · exact ⟨(hD1.2 E hE).1, hD' E hE⟩
        · simp [intOf]; omega
      case stop =>
        rintro D c pre W _ _ h _
        exact h.elim
    · have hv' : v = 62 := by omega
      subst hv'
      have HA := Lib.hid hA
      have HR := Lib.hid hR
      clear hA hR
      gi_wp2_with (first | (refine wpListIn_load_row rfl 75 _ rfl (w.heap.size + 1 + 1) rfl 75 (rowsA fun j => tcol f 62 j) (0, 0) _ HA.out Tryd.underlying75 rfl (by rw [rowsA_size]; exact info59) ?_) | (refine wpListIn_store_row rfl 75 _ _ rfl (w.heap.size + 1) (rowsA fun j => tcol f 62 j) rfl rfl 75 (rowsA fun _ => 0) HR.out (by rw [rowsA_size]; exact info59) (by rw [rowsA_size, rowsA_size]) (rowsA_one _) ?_))
      have hRn : ArrB (W.setRow (w.heap.size + 1) (rowsA fun j => tcol f 62 j)) (w.heap.size + 1) (fun j => tcol f 62 j) := HR.out.setRow _
      have hD2 : DsOk (w.heap.size + 3) (W.setRow (w.heap.size + 1) (rowsA fun j => tcol f 62 j)) Ds := hD.kept fun D hDD => heap_setRow_other W _ _ _ (by have := (hD.2 D hDD).1; omega)
      have hB2 : Below w.heap.size w (W.setRow (w.heap.size + 1) (rowsA fun j => tcol f 62 j)) := hB.trans (setRow_below (by omega) _)
      refine leaves_marks (H := w.heap.size + 3) Ds _ hD2 fun W' hs hb => ?_
      have hRW : W'.heap[w.heap.size + 1]? = some (.cells (rowsA fun j => tcol f 62 j) 75 (0, 0)) := (hb.block _ (by omega)).trans hRn
      exact ⟨_, results_cell_row (p := 2) (ty := 75) rfl _ W' (w.heap.size + 1) 75 _ (0, 0) _ rfl hRW Tryd.underlying75 rfl (by rw [rowsA_size]; exact info59), rfl, hB2.trans (hb.mono (by omega))⟩

theorem turned_any (f : Nat → Nat) (hf : ∀ i, i < 62 → f i < 4611686018427387904) (w : World) (hT : Tab w) :
    Calls Tryd.prog 66 #[.agg (rowsA fun i => f i)] w fun e w' => e = .returned (.agg (rowsA fun j => tcol f 62 j)) ∧ Below w.heap.size w w' :=
  callsIn_wide.1 (turned_in f hf w hT)
end Go.Proofs.YtlodaeoikkjbkaaDoor
