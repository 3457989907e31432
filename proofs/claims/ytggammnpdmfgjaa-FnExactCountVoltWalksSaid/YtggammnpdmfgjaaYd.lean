/-
  impl.walksFrom. (A plain seat of bases.)
-/
import Derived.Test.YtggammnpdmfgjaaYc
import Derived.Test.YtggammnpdmfgjaaLg
import Derived.Test.YtggammnpdmfgjaaMk
import Derived.Deep.MidRow
import Derived.RangeFuncWrites
import Derived.Sort.CutIn
namespace Go.Proofs.Ytggammnpdmfgjaa
open Go.RowKit Go.Shelf

attribute [local go_sem] Oper.semAt_some
attribute [local go_sem] wide_fn

/-- Block B is an array of 62 numbers. -/
def AB (W : World) (B : Nat) (g : Nat → Int) : Prop := W.heap[B]? = some (.cells (intsA (fL g 62)) 79 (0, 0))
theorem AB.lt {W : World} {B : Nat} {g : Nat → Int} (h : AB W B g) : B < W.heap.size := (Array.getElem?_eq_some_iff.1 h).1
theorem AB.cell {W : World} {B : Nat} {g : Nat → Int} (h : AB W B g) {j : Nat} (hj : j < 62) : W.cell? ⟨B, j, none⟩ = some (.int .i64 (g j)) := by
  rw [cell_of_row W B j _ _ _ h, intsA_at _ j (by rw [fL_length]; exact hj), fL_el _ hj]
theorem AB.frozen {W : World} {B : Nat} {g : Nat → Int} (h : AB W B g) (j : Nat) : W.frozen? ⟨B, j, none⟩ = false := frozen_of_row W B j _ _ h
theorem AB.alloc {W : World} {B : Nat} {g : Nat → Int} (h : AB W B g) (o : Obj) : AB (W.alloc o) B g := (Below.heap_alloc W o B h.lt).trans h
theorem AB.other {W : World} {B : Nat} {g : Nat → Int} (h : AB W B g) {a : Addr} (ha : B ≠ a.block) (v : Value) : AB (W.setCell a v) B g := (Below.heap_setCell W a v B ha).trans h
theorem AB.set {W : World} {B : Nat} {g : Nat → Int} (h : AB W B g) (j : Nat) (z : Int) : AB (W.setCell ⟨B, j, none⟩ (.int .i64 z)) B (upF g j z) := by
  unfold AB at *
  rw [heap_setCell_same W B j _ _ _ h, intsA_set, fL_set]
theorem AB.belowAll {W W' : World} {B : Nat} {g : Nat → Int} (h : AB W B g) (hb : Below W.heap.size W W') : AB W' B g := (hb.block B h.lt).trans h
theorem heap_setRow_other (W : World) (B k : Nat) (cs : Array Value) (hk : k ≠ B) : (W.setRow B cs).heap[k]? = W.heap[k]? := by
  simp only [World.setRow, Array.getElem?_modify]
  rw [if_neg (fun e => hk e.symm)]
theorem setRow_below {H B : Nat} {W : World} (hB : H ≤ B) (cs : Array Value) : Below H W (W.setRow B cs) :=
  ⟨rfl, rfl, rfl, by simp, fun k hk => heap_setRow_other W B k cs (by omega)⟩
theorem AB.setRow {W : World} {B : Nat} {f : Nat → Int} (h : AB W B f) (g : Nat → Int) : AB (W.setRow B (intsA (fL g 62))) B g := by
  unfold AB at *
  simp only [World.setRow, Array.getElem?_modify, if_true]
  rw [h]
  rfl
theorem infoA : (Try.prog.info? 79).map (·.size) = some 62 := by kernel_rfl
theorem intsA_one (L : List Int) : (intsA L).all (·.oneCell') = true := by unfold intsA; simp [Value.oneCell']
theorem mixedA : Try.prog.follows Departure.mixedOrders = true := by kernel_rfl

/-- A load of a whole row of cells, inside a fence. -/
theorem wpListIn_load_row {F : Fence} {n : Nat} {P : Program} {ops : Array Oper} {rest : List Oper} {o : Oper} {a : Act} {w : World} {Q : Exit → Act → World → Prop} (hgd : o.guard = none) (ty : TypeId) (x : Operand) (ho : o.op = .load ty x)
    (g : Nat) (hx : a.eval x = .pointer (some ⟨g, 0, none⟩)) (t : TypeId) (cs : Array Value) (fr : Nat × Nat) (d : TypeDesc) (hg : w.heap[g]? = some (.cells cs t fr))
    (hu : P.underlying ty = some d) (hd : (match d with | .struct _ | .array _ _ => true | _ => false) = true) (hi : (P.info? ty).map (·.size) = some cs.size)
    (h : wpListIn F n P ops Q rest (a.put o.dst (.agg cs)) w) : wpListIn F n P ops Q (o :: rest) a w := by
  refine wpListIn_plain hgd fun K' hK' => ?_
  unfold Oper.wpIn
  refine ⟨?_, ?_⟩
  · simp [Oper.about, ho]
  · rw [Oper.semAt_plain F _ _ (by rw [ho]; intro c hc'; cases hc')]
    unfold execOp
    simp only [ho, hx, Instr.loadAt, Instr.sureAddr, Sem.run_bind, Sem.run_pure, Result.andThen_ok, run_loadVar_row w g t ty cs fr d hg hu hd hi]
    exact hK' _ _ h

/-- A store of a whole row of cells, inside a fence. -/
theorem wpListIn_store_row {F : Fence} {n : Nat} {P : Program} {ops : Array Oper} {rest : List Oper} {o : Oper} {a : Act} {w : World} {Q : Exit → Act → World → Prop} (hgd : o.guard = none) (ty : TypeId) (x y : Operand) (ho : o.op = .store ty x y)
    (g : Nat) (cells : Array Value) (hx : a.eval x = .pointer (some ⟨g, 0, none⟩)) (hy : a.eval y = .agg cells)
    (t : TypeId) (old : Array Value) (hg : w.heap[g]? = some (.cells old t (0, 0))) (hi : (P.info? ty).map (·.size) = some cells.size)
    (hold : old.size = cells.size) (h1 : cells.all (·.oneCell') = true)
    (h : wpListIn F n P ops Q rest (a.put o.dst undef) (w.setRow g cells)) : wpListIn F n P ops Q (o :: rest) a w := by
  refine wpListIn_plain hgd fun K' hK' => ?_
  unfold Oper.wpIn
  refine ⟨?_, ?_⟩
  · simp [Oper.about, ho]
  · rw [Oper.semAt_plain F _ _ (by rw [ho]; intro c hc'; cases hc')]
    unfold execOp
    simp only [ho, hx, hy, Instr.storeAt, Instr.sureAddr, Sem.run_bind, Sem.run_pure, Result.andThen_ok, run_storeVar_row w g t ty old cells hg hi hold h1]
    exact hK' _ _ h

/-- The same numbers, for a list of places. -/
def nxL (m f t c : Nat) (cur nxt : Nat → Int) (is : List Nat) : Nat → Int := is.foldl (fun g i => upF g (t * m + (i + c) % m) (IntKind.i64.wrap (g (t * m + (i + c) % m) + cur (f * m + i)))) nxt
theorem nxL_snoc (m f t c : Nat) (cur nxt : Nat → Int) (is : List Nat) (i : Nat) : nxL m f t c cur nxt (is ++ [i]) = upF (nxL m f t c cur nxt is) (t * m + (i + c) % m) (IntKind.i64.wrap (nxL m f t c cur nxt is (t * m + (i + c) % m) + cur (f * m + i))) := by
  unfold nxL; rw [List.foldl_append]; rfl
theorem nxL_range (m f t c : Nat) (cur nxt : Nat → Int) : ∀ i, nxL m f t c cur nxt (List.range i) = nxI m f t c cur nxt i
  | 0 => rfl
  | i + 1 => by rw [List.range_succ, nxL_snoc, nxL_range m f t c cur nxt i]; rfl
theorem fin_valsY (m : Nat) : (List.finRange m).map (fun x : Fin m => x.1) = List.range m := by
  apply List.ext_getElem <;> simp
theorem row_same {w W : World} {B G K : Nat} {e : TypeId} {size : Nat} {xs : List Value} (h : w.ownsRow B e size (.slice (some ⟨G, 0, none⟩) K K) K xs) (hh : W.heap[G]? = w.heap[G]?) : W.ownsRow B e size (.slice (some ⟨G, 0, none⟩) K K) K xs := by
  refine ⟨h.1, ?_⟩
  rcases h.2 with ⟨h2, _⟩ | ⟨g, cap, cur, hv, hb, hg, r⟩
  · cases h2
  · have e : G = g := by cases hv; rfl
    subst e
    exact .inr ⟨G, cap, cur, hv, hb, hh.trans hg, r⟩

set_option maxRecDepth 100000 in
set_option maxHeartbeats 12800000 in
theorem walksFrom_in (n m k cap st K : Nat) (sa : Option Addr) (fs : List Int) (w : World) (hs : Sa w (.slice sa k cap) k fs) (hav : AvOk n m k fs) (h1 : 1 ≤ n ∧ n ≤ 10 ∧ 1 ≤ m ∧ m ≤ 62 ∧ n * m ≤ 62 ∧ k ≤ 16) (hst : st < n * m) (hK : K ≤ 14) :
    CallsIn Fence.wide 5 Try.prog 44 #[.agg #[.int .i64 n, .int .i64 m, .slice sa k cap], .int .i64 st, .int .i64 K] w fun e w' => e = .returned (.agg (intsA (fL (wkT m fs k st K) 62))) ∧ Below w.heap.size w w' := by
  obtain ⟨n1, n2, m1, m2, nm, k16⟩ := h1
  have HST : Hid (∀ W1 : World, Below w.heap.size w W1 → Calls Try.prog 35 #[.agg #[.int .i64 n, .int .i64 m, .slice sa k cap]] W1 fun e w' => e = .returned (.slice (some ⟨W1.heap.size + 1, 0, none⟩) (2 * k) (2 * k)) ∧ Hid (w'.ownsRow (W1.heap.size + 1) 68 4 (.slice (some ⟨W1.heap.size + 1, 0, none⟩) (2 * k) (2 * k)) (2 * k) (stL m fs (2 * k))) ∧ Below W1.heap.size W1 w') := fun W1 h =>
    stepsOf_any n m k cap sa fs W1 (hs.below h) hav ⟨n2, m2, k16⟩
  have HAV := Lib.hid hav
  obtain ⟨NM, hNM⟩ : ∃ NM, NM = n * m := ⟨_, rfl⟩
  rw [← hNM] at nm hst
  have HNM := Lib.hid hNM
  obtain ⟨K2, hK2⟩ : ∃ K2, K2 = 2 * k := ⟨_, rfl⟩
  rw [← hK2] at HST
  have HK2 := Lib.hid hK2
  have K232 : K2 ≤ 32 := by omega
  have st0 : (0 : Int) ≤ (st : Int) := by omega
  have st1 : (st : Int) < 62 := by omega
  clear hs hav hNM hK2
  refine callsIn_of_wp_marks Try.func44 rfl trivial ?_ rfl
  simp only [Try.ntmps44, List.size_toArray, List.length_cons, List.length_nil, Nat.reduceAdd, Nat.reduceSub, Array.replicate_succ, Array.replicate_zero, List.push_toArray, List.append_toArray, List.nil_append, List.cons_append]
  obtain ⟨Wz, hWz⟩ : ∃ Wz, Wz = ((w.alloc (.cells #[.int .i64 n, .int .i64 m, .slice sa k cap] 33)).alloc (.cells (intsA (fL (fun _ => 0) 62)) 79)).alloc (.cells (intsA (fL (fun _ => 0) 62)) 79) := ⟨_, rfl⟩
  gi_upto_region 2 with fail
  refine at_world (w' := Wz) ?_ (by rw [hWz]; rfl)
  have sz : Wz.heap.size = w.heap.size + 3 := by rw [hWz]; simp
  have HA0 : AB Wz (w.heap.size + 1 + 1) (fun _ => 0) := by rw [hWz]; exact heap_new_at _ _ _ (by simp)
  have HR0 : AB Wz (w.heap.size + 1) (fun _ => 0) := by rw [hWz]; exact heap_old_at (heap_new_at _ _ _ (by simp)) _
  have HB0 : Hid (Wz.heap[w.heap.size]? = some (.cells #[.int .i64 n, .int .i64 m, .slice sa k cap] 33 (0, 0))) := by show _ = _; rw [hWz]; exact heap_old_at (heap_old_at (World.alloc_heap_new w _) _) _
  have E0 : Below w.heap.size w Wz := by rw [hWz]; exact (((Below.refl _ _).alloc (Nat.le_refl _) _).alloc (by simp) _).alloc (by simp; omega) _
  have z0 := HA0.cell (j := st) (by omega)
  have y0 := HA0.frozen st
  have HA0 := Lib.hid HA0
  have HR0 := Lib.hid HR0
  clear hWz
  gi_wp2
  obtain ⟨Wy, hWy⟩ : ∃ Wy, Wy = Wz.setCell ⟨w.heap.size + 1 + 1, st, none⟩ (.int .i64 1) := ⟨_, rfl⟩
  refine at_world (w' := Wy) ?_ hWy.symm
  have HA1 : Hid (AB Wy (w.heap.size + 1 + 1) (wkT m fs k st 0)) := by show AB _ _ _; rw [hWy]; exact HA0.out.set st 1
  have HR1 : Hid (AB Wy (w.heap.size + 1) (fun _ => 0)) := by show AB _ _ _; rw [hWy]; exact HR0.out.other (by simp) _
  have HB1 : Hid (Wy.heap[w.heap.size]? = some (.cells #[.int .i64 n, .int .i64 m, .slice sa k cap] 33 (0, 0))) := by show _ = _; rw [hWy]; exact (Below.heap_setCell _ _ _ _ (by simp; omega)).trans HB0.out
  have E1 : Below w.heap.size w Wy := by rw [hWy]; exact E0.setCell (by simp; omega) _
  have sy : w.heap.size + 3 ≤ Wy.heap.size := by rw [hWy]; simp; omega
  clear hWy z0 y0 HA0 HR0 HB0 E0 sz
  refine wpIn_loop (fun a W => ∃ (t : Nat) (Ds : List Nat) (u4 u5 u8 u9 u10 u11 u12 u17 u18 u19 u20 u21 u22 u23 u24 u25 u26 u27 u28 u29 u30 u31 u32 u33 u34 u35 u36 u37 u38 u39 u40 u41 u42 u43 : Value), a = { tmps := #[.agg #[.int .i64 n, .int .i64 m, .slice sa k cap], .int .i64 st, .int .i64 K, .pointer (some ⟨w.heap.size, 0, none⟩), u4, u5, .pointer (some ⟨w.heap.size + 1, 0, none⟩), .pointer (some ⟨w.heap.size + 1 + 1, 0, none⟩), u8, u9, u10, u11, u12, .int .i64 st, .pointer (some ⟨w.heap.size + 1 + 1, st, none⟩), .int .i64 K, .int .i64 t, u17, u18, u19, u20, u21, u22, u23, u24, u25, u26, u27, u28, u29, u30, u31, u32, u33, u34, u35, u36, u37, u38, u39, u40, u41, u42, u43], defers := marks Ds } ∧ t ≤ K ∧ Hid (AB W (w.heap.size + 1 + 1) (wkT m fs k st t)) ∧ Hid (AB W (w.heap.size + 1) (fun _ => 0)) ∧ Hid (W.heap[w.heap.size]? = some (.cells #[.int .i64 n, .int .i64 m, .slice sa k cap] 33 (0, 0))) ∧ Below w.heap.size w W ∧ DsOk (w.heap.size + 3) W Ds ∧ w.heap.size + 3 ≤ W.heap.size) (fun a _ => K - (intOf (a.tmps.getD 16 undef)).toNat) ?h0 ?round
  case h0 =>
    exact ⟨0, [], _, _, _, _, _, _, _, _, _, _, _, _, _, _, _, _, _, _, _, _, _, _, _, _, _, _, _, _, _, _, _, _, _, _, rfl, Nat.zero_le _, HA1, HR1, HB1, E1, ⟨List.nodup_nil, by simp⟩, sy⟩
  case round =>
    clear HA1 HR1 HB1 E1 sy
    rintro a W ⟨t, Ds, u4, u5, u8, u9, u10, u11, u12, u17, u18, u19, u20, u21, u22, u23, u24, u25, u26, u27, u28, u29, u30, u31, u32, u33, u34, u35, u36, u37, u38, u39, u40, u41, u42, u43, rfl, htK, HA, HR, HB, hE, hDs, hsz⟩
    obtain ⟨⟨b0, b1, b2⟩, -⟩ := three_cells HB.out
    by_cases hlt : t < K
    · have hlti : (t : Int) < K := by omega
      have g4 : IntKind.i64.wrap ((t : Int) + 1) = (t : Int) + 1 := IntWalk.i64_in _ (by omega)
      obtain ⟨cur, hcur⟩ : ∃ cur, cur = wkT m fs k st t := ⟨_, rfl⟩
      have HCU : Hid (wkT m fs k st (t + 1) = nxS m fs cur K2) := by show _ = _; rw [hcur, HK2.out]; rfl
      rw [← hcur] at HA
      clear hcur
      gi_upto_region 6 with fail
      obtain ⟨Wb, hWb⟩ : ∃ Wb, Wb = W.alloc (.cells (intsA (fL (fun _ => 0) 62)) 79) := ⟨_, rfl⟩
      refine at_world (w' := Wb) ?_ (by rw [hWb]; rfl)
      obtain ⟨X, hX⟩ : ∃ X, X = W.heap.size := ⟨_, rfl⟩
      have sb : Wb.heap.size = W.heap.size + 1 := by rw [hWb]; simp
      have hbb : Below W.heap.size W Wb := by rw [hWb]; exact (Below.refl _ _).alloc (Nat.le_refl _) _
      have HXb : Hid (AB Wb X (nxS m fs cur 0)) := by show AB _ _ _; rw [hWb, hX]; exact World.alloc_heap_new W _
      have HAb : Hid (AB Wb (w.heap.size + 1 + 1) cur) := HA.out.belowAll hbb
      have HRb : Hid (AB Wb (w.heap.size + 1) (fun _ => 0)) := HR.out.belowAll hbb
      have HBb : Hid (Wb.heap[w.heap.size]? = some (.cells #[.int .i64 n, .int .i64 m, .slice sa k cap] 33 (0, 0))) := (hbb.block _ (by omega)).trans HB.out
      have hEb : Below w.heap.size w Wb := hE.trans (hbb.mono hE.size)
      have hDsb : DsOk (w.heap.size + 3) Wb Ds := hDs.kept fun Dd hDd => hbb.block Dd (Array.getElem?_eq_some_iff.1 (hDs.2 Dd hDd).2).1
      have hcs := HST.out Wb hEb
      rw [← hX]
      have hXw : w.heap.size + 3 ≤ X := by omega
      have sb2 : X + 1 ≤ Wb.heap.size := by omega
      clear hWb hX hbb HA HR HB hE hDs b0 b1 b2 sb hsz
      obtain ⟨⟨b0, b1, b2⟩, -⟩ := three_cells HBb.out
      gi_wp2_with (gi_at_call 35; refine (callsIn_wide.2 hcs).mono ?_; rintro e w5 ⟨rfl, HO5, hb5⟩)
      obtain ⟨G, hG⟩ : ∃ G, G = Wb.heap.size + 1 := ⟨_, rfl⟩
      rw [← hG] at HO5 ⊢
      have hGw : w.heap.size + 3 ≤ G := by omega
      have hGX : X < G := by omega
      clear hG
      have HX5 : Hid (AB w5 X (nxS m fs cur 0)) := HXb.out.belowAll hb5
      have HA5 : Hid (AB w5 (w.heap.size + 1 + 1) cur) := HAb.out.belowAll hb5
      have HR5 : Hid (AB w5 (w.heap.size + 1) (fun _ => 0)) := HRb.out.belowAll hb5
      have HB5 : Hid (w5.heap[w.heap.size]? = some (.cells #[.int .i64 n, .int .i64 m, .slice sa k cap] 33 (0, 0))) := (hb5.block _ (by omega)).trans HBb.out
      have hE5 : Below w.heap.size w w5 := hEb.trans (hb5.mono hEb.size)
      have hDs5 : DsOk (w.heap.size + 3) w5 Ds := hDsb.kept fun Dd hDd => hb5.block Dd (Array.getElem?_eq_some_iff.1 (hDsb.2 Dd hDd).2).1
      have hGl : G < w5.heap.size := (HO5.out.lt G rfl).2
      obtain ⟨o5, ho5⟩ : ∃ o, w5.heap[G]? = some o := ⟨_, Array.getElem?_eq_getElem hGl⟩
      have HO := Lib.hid ho5
      have HOo := Lib.hid ho5
      have s5 := hb5.size
      clear HXb HAb HRb HBb hEb hDsb hb5 b0 b1 b2 hcs ho5
      refine wpIn_loop (fun a W => ∃ (x : Nat) (Ds : List Nat) (u10 u11 u12 u22 u23 u24 u25 u26 u27 u28 u29 u30 u31 u32 u33 u34 u35 u36 u37 u38 u39 u40 u41 u42 u43 : Value), a = { tmps := #[.agg #[.int .i64 n, .int .i64 m, .slice sa k cap], .int .i64 st, .int .i64 K, .pointer (some ⟨w.heap.size, 0, none⟩), u4, u5, .pointer (some ⟨w.heap.size + 1, 0, none⟩), .pointer (some ⟨w.heap.size + 1 + 1, 0, none⟩), .pointer (some ⟨X, 0, none⟩), u9, u10, u11, u12, .int .i64 st, .pointer (some ⟨w.heap.size + 1 + 1, st, none⟩), .int .i64 K, .int .i64 t, .bool true, .agg #[.int .i64 n, .int .i64 m, .slice sa k cap], .slice (some ⟨G, 0, none⟩) K2 K2, .int .i64 K2, .int .i64 x, u22, u23, u24, u25, u26, u27, u28, u29, u30, u31, u32, u33, u34, u35, u36, u37, u38, u39, u40, u41, u42, u43], defers := marks Ds } ∧ x ≤ K2 ∧ Hid (AB W X (nxS m fs cur x)) ∧ Hid (AB W (w.heap.size + 1 + 1) cur) ∧ Hid (AB W (w.heap.size + 1) (fun _ => 0)) ∧ Hid (W.heap[w.heap.size]? = some (.cells #[.int .i64 n, .int .i64 m, .slice sa k cap] 33 (0, 0))) ∧ Hid (W.heap[G]? = some o5) ∧ Below w.heap.size w W ∧ DsOk (w.heap.size + 3) W Ds ∧ w5.heap.size ≤ W.heap.size) (fun a _ => K2 - (intOf (a.tmps.getD 21 undef)).toNat) ?h02 ?round2
      case h02 =>
        exact ⟨0, Ds, _, _, _, _, _, _, _, _, _, _, _, _, _, _, _, _, _, _, _, _, _, _, _, _, _, rfl, Nat.zero_le _, HX5, HA5, HR5, HB5, HO, hE5, hDs5, Nat.le_refl _⟩
      case round2 =>
        clear HX5 HA5 HR5 HB5 HO hE5 hDs5
        rintro a W2 ⟨x, Ds, u10, u11, u12, u22, u23, u24, u25, u26, u27, u28, u29, u30, u31, u32, u33, u34, u35, u36, u37, u38, u39, u40, u41, u42, u43, rfl, hxK, HX, HA, HR, HB, HO, hE, hDs, hsz⟩
        obtain ⟨⟨b0, b1, b2⟩, -⟩ := three_cells HB.out
        have hwW : ¬ w.heap.size = W2.heap.size := by omega
        have hwW2 : w.heap.size < W2.heap.size := by omega
        by_cases hlx : x < K2
        · have hlxi : (x : Int) < K2 := by omega
          have hx0 : (0 : Int) ≤ x := by omega
          have g5 : IntKind.i64.wrap ((x : Int) + 1) = (x : Int) + 1 := IntWalk.i64_in _ (by omega)
          obtain ⟨z0, z1, z2, z3⟩ := step_cells (row_same HO5.out (HO.out.trans HOo.out.symm)) (Below.refl _ _) hlx
          obtain ⟨nx, hnx⟩ : ∃ nx, nx = nxS m fs cur x := ⟨_, rfl⟩
          obtain ⟨f0, t0, c0⟩ := stA_lt HAV.out (show x < 2 * k by have := HK2.out; omega)
          obtain ⟨f, hf⟩ : ∃ f, f = stA m fs x 0 := ⟨_, rfl⟩
          obtain ⟨u, hu⟩ : ∃ u, u = stA m fs x 1 := ⟨_, rfl⟩
          obtain ⟨c, hc⟩ : ∃ c, c = stA m fs x 2 := ⟨_, rfl⟩
          have HNX : Hid (nxS m fs cur (x + 1) = nxL m f u c cur nx (List.range m)) := by show _ = _; rw [nxL_range, hnx, hf, hu, hc]; rfl
          rw [← hf] at f0 z1
          rw [← hu] at t0 z2
          rw [← hc] at c0 z3
          rw [← hnx] at HX
          clear hf hu hc hnx
          gi_wp2_with (gi_at_call 27; refine (callsIn_wide.2 (liftedArcs_any _ _ _ _ _)).mono ?_; rintro e w' ⟨rfl, rfl⟩)
          obtain ⟨Wm, hWm⟩ : ∃ Wm, Wm = ((W2.alloc (.cells #[.int .i64 x, .int .i64 f, .int .i64 u, .int .i64 c] 68)).alloc (.cells #[.int .i64 m] 2)).alloc (.cells #[.int .i64 f, .int .i64 u, .int .i64 c] 55) := ⟨_, rfl⟩
          refine at_world (w' := Wm) ?_ hWm.symm
          have hsm : W2.heap.size + 3 ≤ Wm.heap.size := by rw [hWm]; simp
          have hbm : Below W2.heap.size W2 Wm := by rw [hWm]; exact (((Below.refl _ _).alloc (Nat.le_refl _) _).alloc (by simp) _).alloc (by simp; omega) _
          have hBa : Wm.heap[W2.heap.size + 1 + 1]? = some (.cells #[.int .i64 f, .int .i64 u, .int .i64 c] 55 (0, 0)) := by rw [hWm]; exact heap_new_at _ _ _ (by simp)
          have hBb : Wm.heap[W2.heap.size + 1]? = some (.cells #[.int .i64 m] 2 (0, 0)) := by rw [hWm]; exact heap_old_at (heap_new_at _ _ _ (by simp)) _
          have hEm := hE.trans (hbm.mono hE.size)
          have hDsm : DsOk (w.heap.size + 3) Wm Ds := hDs.kept fun Dd hDd => hbm.block Dd (Array.getElem?_eq_some_iff.1 (hDs.2 Dd hDd).2).1
          have HXm : Hid (AB Wm X (nxL m f u c cur nx [])) := HX.out.belowAll hbm
          have HAm : Hid (AB Wm (w.heap.size + 1 + 1) cur) := HA.out.belowAll hbm
          have HRm : Hid (AB Wm (w.heap.size + 1) (fun _ => 0)) := HR.out.belowAll hbm
          have HBm : Hid (Wm.heap[w.heap.size]? = some (.cells #[.int .i64 n, .int .i64 m, .slice sa k cap] 33 (0, 0))) := (hbm.block _ (by omega)).trans HB.out
          have HOm : Hid (Wm.heap[G]? = some o5) := (hbm.block G (by omega)).trans HO.out
          obtain ⟨q, hq⟩ : ∃ q, q = f * m := ⟨_, rfl⟩
          have hst := lifted_stops 4 (by omega) (W2.heap.size + 1 + 1) (W2.heap.size + 1) m f u c q hq m1 m2 (by omega) (by omega) c0 Wm hBa hBb
          obtain ⟨vf, hvf⟩ : ∃ vf : Fin m → Nat, vf = fun x => q + x.1 := ⟨_, rfl⟩
          obtain ⟨rf, hrf⟩ : ∃ rf : Fin m → Nat, rf = fun x => u * m + (x.1 + c) % m := ⟨_, rfl⟩
          rw [show (fun x : Fin m => (#[.int .i64 ((q + x.1 : Nat) : Int), .int .i64 ((u * m + (x.1 + c) % m : Nat) : Int)] : Array Value)) = fun x => #[.int .i64 (vf x), .int .i64 (rf x)] by rw [hvf, hrf]] at hst
          have HVF : Hid (∀ x, vf x = f * m + x.1) := fun x => by rw [hvf, hq]
          have HRF : Hid (∀ x, rf x = u * m + (x.1 + c) % m) := fun x => by rw [hrf]
          have HVL : Hid (∀ x, vf x < 62) := fun x => by rw [HVF.out x]; have := mul_in f0 x.2; rw [← HNM.out] at this; omega
          have HRL : Hid (∀ x, rf x < 62) := fun x => by rw [HRF.out x]; have := mul_in t0 (Nat.mod_lt (x.1 + c) (show 0 < m by omega)); rw [← HNM.out] at this; omega
          have hXl : X < W2.heap.size := HX.out.lt
          have hAl : w.heap.size + 1 + 1 < W2.heap.size := HA.out.lt
          clear hWm hbm HX HA HR HB HO b0 b1 b2 z0 z1 z2 z3 hE hDs hwW hwW2 hvf hrf
          refine wpIn_rangeFunc_ownF (α := Fin m) rfl (by omega) (gf := 49) (lb := #[.pointer (some ⟨W2.heap.size + 1 + 1, 0, none⟩), .pointer (some ⟨W2.heap.size + 1, 0, none⟩)]) rfl trivial (enters_of Try.func49 (by kernel_rfl) rfl)
            hst KpB.tr (KpB.put (by omega) (by omega)) (Below.refl _ _) (fun _ => rfl)
            (fun pre W' => Hid (AB W' X (nxL m f u c cur nx (pre.map fun y => y.1))) ∧ Hid (AB W' (w.heap.size + 1 + 1) cur) ∧ Hid (AB W' (w.heap.size + 1) (fun _ => 0)) ∧ Hid (W'.heap[w.heap.size]? = some (.cells #[.int .i64 n, .int .i64 m, .slice sa k cap] 33 (0, 0))) ∧ Hid (W'.heap[G]? = some o5) ∧ Hid (∀ Dd, Dd ∈ Ds → W'.heap[Dd]? = some (.deferred (some []))) ∧ Below w.heap.size w W' ∧ Wm.heap.size ≤ W'.heap.size)
            (fun _ _ _ => False)
            ?hI (fun _ _ _ _ _ hs _ _ => hs) ?h0c (fun y => { tmps := #[.agg #[.int .i64 n, .int .i64 m, .slice sa k cap], .int .i64 st, .int .i64 K, .pointer (some ⟨w.heap.size, 0, none⟩), u4, u5, .pointer (some ⟨w.heap.size + 1, 0, none⟩), .pointer (some ⟨w.heap.size + 1 + 1, 0, none⟩), .pointer (some ⟨X, 0, none⟩), u9, .pointer (some ⟨W2.heap.size, 0, none⟩), .int .i64 (vf y), .int .i64 (rf y), .int .i64 st, .pointer (some ⟨w.heap.size + 1 + 1, st, none⟩), .int .i64 K, .int .i64 t, .bool true, .agg #[.int .i64 n, .int .i64 m, .slice sa k cap], .slice (some ⟨G, 0, none⟩) K2 K2, .int .i64 K2, .int .i64 x, .bool true, .pointer (some ⟨G, x * 4, none⟩), .agg #[.int .i64 x, .int .i64 f, .int .i64 u, .int .i64 c], .pointer (some ⟨w.heap.size, 1, none⟩), .int .i64 m, .pointer (some ⟨W2.heap.size, 1, none⟩), .agg #[.int .i64 f, .int .i64 u, .int .i64 c], .func (.func 49) #[] #[.pointer (some ⟨W2.heap.size + 1 + 1, 0, none⟩), .pointer (some ⟨W2.heap.size + 1, 0, none⟩)], .int .i64 (vf y), .int .i64 (rf y), u32, u33, u34, u35, u36, u37, u38, u39, u40, u41, u42, u43], defers := [] }) ?assign ?body ?done ?stop
          case hI =>
            rintro pre A B row ⟨h1, h2, h3, h4, h5, h6, h7, h8⟩ hg hr
            refine ⟨kept_row hg hr (by omega) h1.out, kept_row hg hr (by omega) h2.out, kept_row hg hr (by omega) h3.out, kept_row hg hr (by omega) h4.out, kept_row hg hr (by omega) h5.out, fun Dd hDd => kept_row hg hr ?_ (h6.out Dd hDd), ?_, Nat.le_trans h8 hg.size⟩
            · exact (Array.getElem?_eq_some_iff.1 (hDsm.2 Dd hDd).2).1
            · exact h7.grown hg h7.size (fun k e => by have := (hr k e).1; omega)
          case h0c =>
            exact ⟨HXm, HAm, HRm, HBm, HOm, fun Dd hDd => (hDsm.2 Dd hDd).2, hEm, Nat.le_refl _⟩
          case assign =>
            intro l y W K hK
            gi_wp2
            exact hK
          case body =>
            rintro l pre y W5 ⟨hx5, ha5, hr5, hb5, ho5, hd5, hB5, hs5⟩ hlen
            have hmap : List.map (fun y : Fin m => y.1) (pre ++ [y]) = pre.map (fun y : Fin m => y.1) ++ [y.1] := by simp
            obtain ⟨An, hAn⟩ : ∃ An, An = nxL m f u c cur nx (pre.map fun y : Fin m => y.1) := ⟨_, rfl⟩
            have HNL : Hid (nxL m f u c cur nx (List.map (fun y : Fin m => y.1) (pre ++ [y])) = upF An (rf y) (IntKind.i64.wrap (An (rf y) + cur (vf y)))) := by show _ = _; rw [hmap, nxL_snoc, hAn, HVF.out y, HRF.out y]
            rw [← hAn] at hx5
            have v62 := HVL.out y
            have r62 := HRL.out y
            obtain ⟨v, hv⟩ : ∃ v, v = vf y := ⟨_, rfl⟩
            obtain ⟨r, hr⟩ : ∃ r, r = rf y := ⟨_, rfl⟩
            rw [← hv] at v62 HNL ⊢
            rw [← hr] at r62 HNL ⊢
            have z0 := hx5.out.cell r62
            have z1 := ha5.out.cell v62
            have y0 := hx5.out.frozen r
            obtain ⟨c0', hc0⟩ : ∃ z, z = An r := ⟨_, rfl⟩
            obtain ⟨c1', hc1⟩ : ∃ z, z = cur v := ⟨_, rfl⟩
            rw [← hc0] at z0 HNL
            rw [← hc1] at z1 HNL
            obtain ⟨zz, hzz⟩ : ∃ zz, zz = IntKind.i64.wrap (c0' + c1') := ⟨_, rfl⟩
            have hzz' : IntKind.i64.wrap (c0' + c1') = zz := hzz.symm
            rw [← hzz] at HNL
            have a1 : (v : Int) < 62 := by omega
            have a2 : (r : Int) < 62 := by omega
            have a3 : (0 : Int) ≤ v := by omega
            have a4 : (0 : Int) ≤ r := by omega
            have hmx : Try.prog.follows Departure.mixedOrders = true := mixedA
            clear hmap hAn hv hr hc0 hc1 hzz
            obtain ⟨W8, hW8⟩ : ∃ W8, W8 = (W5.setCell ⟨X, r, none⟩ (.int .i64 zz)).drew := ⟨_, rfl⟩
            have hKp : KpB (W2.heap.size + 1 + 1) (W2.heap.size + 1) W5 W8 := by rw [hW8]; exact ⟨Below.heap_setCell W5 ⟨X, r, none⟩ _ _ (by simp; omega), Below.heap_setCell W5 ⟨X, r, none⟩ _ _ (by simp; omega)⟩
            have hI8 : Hid (AB W8 X (nxL m f u c cur nx ((pre ++ [y]).map fun y => y.1))) ∧ Hid (AB W8 (w.heap.size + 1 + 1) cur) ∧ Hid (AB W8 (w.heap.size + 1) (fun _ => 0)) ∧ Hid (W8.heap[w.heap.size]? = some (.cells #[.int .i64 n, .int .i64 m, .slice sa k cap] 33 (0, 0))) ∧ Hid (W8.heap[G]? = some o5) ∧ Hid (∀ Dd, Dd ∈ Ds → W8.heap[Dd]? = some (.deferred (some []))) ∧ Below w.heap.size w W8 ∧ Wm.heap.size ≤ W8.heap.size := by
              rw [hW8]
              refine ⟨?_, ha5.out.other (a := ⟨X, r, none⟩) (by simp; omega) _, hr5.out.other (a := ⟨X, r, none⟩) (by simp; omega) _, (Below.heap_setCell W5 ⟨X, r, none⟩ _ _ (by simp; omega)).trans hb5.out, (Below.heap_setCell W5 ⟨X, r, none⟩ _ _ (by simp; omega)).trans ho5.out, fun Dd hDd => (Below.heap_setCell W5 ⟨X, r, none⟩ _ _ (fun e => ?_)).trans (hd5.out Dd hDd), (hB5.setCell (p := ⟨X, r, none⟩) (by simp; omega) _).drew, by simpa using hs5⟩
              · show AB _ _ _
                rw [HNL.out]
                exact hx5.out.set r zz
              · have h := hd5.out Dd hDd
                rw [e, show W5.heap[(⟨X, r, none⟩ : Addr).block]? = _ from hx5.out] at h
                cases h
            have HK8 := Lib.hid hKp
            have HI8 := Lib.hid hI8
            rw [hW8] at HK8 HI8
            clear hW8 hKp hI8 HNL hx5 ha5 hr5 hb5 ho5 hd5 hB5 hs5
            gi_wp2
            gi_region_with_o (fail)
            all_goals exact ⟨(KeepsOthers.setCell _ _ _).trans (KeepsOthers.drew _), HK8.out, HI8.out⟩
          case done =>
            rintro Dm ys W6 hDD rfl ⟨hx6, ha6, hr6, hb6, ho6, hd6, hB6, hs6⟩ hK
            have HX7 : Hid (AB W6 X (nxS m fs cur (x + 1))) := by
              show AB _ _ _
              rw [HNX.out, ← fin_valsY]
              exact hx6.out
            have hDs7 : DsOk (w.heap.size + 3) W6 (Dm :: Ds) := by
              refine ⟨List.nodup_cons.2 ⟨fun hDD' => ?_, hDsm.1⟩, fun E hE => ?_⟩
              · have := (Array.getElem?_eq_some_iff.1 (hDsm.2 Dm hDD').2).1; omega
              · rcases List.mem_cons.1 hE with rfl | hE
                · exact ⟨by omega, hK⟩
                · exact ⟨(hDsm.2 E hE).1, hd6.out E hE⟩
            gi_wp2
            refine ⟨⟨x + 1, Dm :: Ds, _, _, _, _, _, _, _, _, _, _, _, _, _, _, _, _, _, _, _, _, _, _, _, _, _, rfl, hlx, HX7, ha6, hr6, hb6, ho6, hB6, hDs7, by omega⟩, ?_⟩
            simp [intOf]; omega
          case stop =>
            rintro D c pre W _ _ h _
            exact h.elim
        · obtain rfl : x = K2 := by omega
          clear b0 b1 b2
          have HS : Hid (nxS m fs cur x = wkT m fs k st (t + 1)) := HCU.out.symm
          gi_wp2_with (first | (refine wpListIn_load_row rfl 79 _ rfl X rfl 79 (intsA (fL (nxS m fs cur x) 62)) (0, 0) _ HX.out Try.underlying79 rfl (by rw [intsA_size, fL_length]; exact infoA) ?_) | (refine wpListIn_store_row rfl 79 _ _ rfl (w.heap.size + 1 + 1) (intsA (fL (nxS m fs cur x) 62)) rfl rfl 79 (intsA (fL cur 62)) HA.out (by rw [intsA_size, fL_length]; exact infoA) (by rw [intsA_size, intsA_size, fL_length, fL_length]) (intsA_one _) ?_))
          have HA9 := HA.out.setRow (nxS m fs cur x)
          have hb9 := setRow_below (H := w.heap.size + 1 + 1) (B := w.heap.size + 1 + 1) (W := W2) (Nat.le_refl _) (intsA (fL (nxS m fs cur x) 62))
          have HR9 : Hid (AB (W2.setRow (w.heap.size + 1 + 1) (intsA (fL (nxS m fs cur x) 62))) (w.heap.size + 1) (fun _ => 0)) := (hb9.block _ (by omega)).trans HR.out
          have HB9 : Hid ((W2.setRow (w.heap.size + 1 + 1) (intsA (fL (nxS m fs cur x) 62))).heap[w.heap.size]? = some (.cells #[.int .i64 n, .int .i64 m, .slice sa k cap] 33 (0, 0))) := (hb9.block _ (by omega)).trans HB.out
          have hD9 : DsOk (w.heap.size + 3) (W2.setRow (w.heap.size + 1 + 1) (intsA (fL (nxS m fs cur x) 62))) Ds := hDs.kept fun D hDD => heap_setRow_other W2 _ _ _ (by have := (hDs.2 D hDD).1; omega)
          have hE9 := hE.trans (hb9.mono (by omega))
          have HA10 : Hid (AB (W2.setRow (w.heap.size + 1 + 1) (intsA (fL (nxS m fs cur x) 62))) (w.heap.size + 1 + 1) (wkT m fs k st (t + 1))) := by show AB _ _ _; rw [HCU.out]; exact HA9
          refine ⟨⟨t + 1, Ds, _, _, _, _, _, _, _, _, _, _, _, _, _, _, _, _, _, _, _, _, _, _, _, _, _, _, _, _, _, _, _, _, _, _, rfl, hlt, HA10, HR9, HB9, hE9, hD9, ?_⟩, ?_⟩
          · have := hb9.size; omega
          · simp [intOf]; omega
    · obtain rfl : t = K := by omega
      clear b0 b1 b2
      gi_wp2_with (first | (refine wpListIn_load_row rfl 79 _ rfl (w.heap.size + 1 + 1) rfl 79 (intsA (fL (wkT m fs k st t) 62)) (0, 0) _ HA.out Try.underlying79 rfl (by rw [intsA_size, fL_length]; exact infoA) ?_) | (refine wpListIn_store_row rfl 79 _ _ rfl (w.heap.size + 1) (intsA (fL (wkT m fs k st t) 62)) rfl rfl 79 (intsA (fL (fun _ => 0) 62)) HR.out (by rw [intsA_size, fL_length]; exact infoA) (by rw [intsA_size, intsA_size, fL_length, fL_length]) (intsA_one _) ?_))
      have hRn := HR.out.setRow (wkT m fs k st t)
      have hD2 : DsOk (w.heap.size + 3) (W.setRow (w.heap.size + 1) (intsA (fL (wkT m fs k st t) 62))) Ds := hDs.kept fun D hDD => heap_setRow_other W _ _ _ (by have := (hDs.2 D hDD).1; omega)
      have hB2 : Below w.heap.size w (W.setRow (w.heap.size + 1) (intsA (fL (wkT m fs k st t) 62))) := hE.trans (setRow_below (by omega) _)
      refine leaves_marks (H := w.heap.size + 3) Ds _ hD2 fun W' hs hb => ?_
      have hRW := (hb.block (w.heap.size + 1) (by omega)).trans hRn
      exact ⟨_, results_cell_row (p := 6) (ty := 79) rfl _ W' (w.heap.size + 1) 79 _ (0, 0) _ rfl hRW Try.underlying79 rfl (by rw [intsA_size, fL_length]; exact infoA), rfl, hB2.trans (hb.mono (by omega))⟩
end Go.Proofs.Ytggammnpdmfgjaa
