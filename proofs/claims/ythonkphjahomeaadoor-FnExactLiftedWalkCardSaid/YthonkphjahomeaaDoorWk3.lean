/-
  impl.walkOf: the door that recovers: what is caught.
-/
import Derived.Test.YthonkphjahomeaaDoorWk2
namespace Go.Proofs.YthonkphjahomeaaDoor
set_option maxRecDepth 100000
open Go.RowKit

theorem assert_err (a : Addr) (W : World) : (Instr.typeAssert (.iface 74 (.pointer (some a))) 20 68 true).run Tryd.prog W = .ok (.tuple #[.iface 74 (.pointer (some a)), .bool true]) W := by kernel_rfl
theorem assert_nil (W : World) : (Instr.typeAssert .nilIface 20 68 true).run Tryd.prog W = .ok (.tuple #[.nilIface, .bool false]) W := by kernel_rfl

set_option maxHeartbeats 1600000 in
theorem catch_panicking (p q : Addr) (a : Addr) (older : List PanicEntry) (v x : Value) (w : World) (hv : w.cell? p = some v) (hp : w.frozen? p = false) (hc : (w.setCell p (.pointer none)).cell? q = some x) (hz : (w.setCell p (.pointer none)).frozen? q = false) :
    CallsD Tryd.prog 35 #[.pointer (some p), .pointer (some q)] (.panicking ({ v := .iface 74 (.pointer (some a)), recovered := false } :: older)) w fun e u' w' =>
      e = .returned (.tuple #[]) ∧ u' = .panicking ({ v := .iface 74 (.pointer (some a)), recovered := true } :: older) ∧ w' = (w.setCell p (.pointer none)).setCell q (.int .i64 5) := by
  refine callsD_of_wpS Tryd.func35 rfl fun c₀ cs hu => ?_
  apply wpS_seq
  apply wpS_region
  simp [wpOpsS, go_sem, recoverD, hu, Tryd.ntmps35, Exit.thenS, assert_err]
  apply wpS_seq
  apply wpS_region
  simp [wpOpsS, go_sem, Exit.thenS]
  refine wpS_cond (t := true) (by simp [Act.eval, Array.replicate]) ?_
  simp only [if_true]
  apply wpS_region
  simp [wpOpsS, go_sem, hv, hp, hc, hz, bodyPostS, results, Tryd.results35]

set_option maxHeartbeats 1600000 in
theorem catch_idle (p q : Addr) (w : World) :
    CallsD Tryd.prog 35 #[.pointer (some p), .pointer (some q)] .returning w fun e u' w' => e = .returned (.tuple #[]) ∧ u' = .returning ∧ w' = w := by
  refine callsD_of_wpS Tryd.func35 rfl fun c₀ cs hu => ?_
  apply wpS_seq
  apply wpS_region
  simp [wpOpsS, go_sem, recoverD, hu, Tryd.ntmps35, Exit.thenS, assert_nil]
  apply wpS_seq
  apply wpS_region
  simp [wpOpsS, go_sem, Exit.thenS]
  refine wpS_cond (t := false) (by simp [Act.eval, Array.replicate]) ?_
  simp only [Bool.false_eq_true, if_false]
  refine wpS_of_wp (wp_skip ?_)
  cases c₀
  simp_all [bodyPostS, results, Tryd.results35]

theorem pair_set {w : World} {P : Nat} {u x : Value} {t t' : TypeId} (h1 : w.heap[P]? = some (.cells #[u] t (0, 0))) (h2 : w.heap[P + 1]? = some (.cells #[x] t' (0, 0))) (u' x' : Value) :
    ((w.setCell ⟨P, 0, none⟩ u').setCell ⟨P + 1, 0, none⟩ x').cell? ⟨P, 0, none⟩ = some u' ∧ ((w.setCell ⟨P, 0, none⟩ u').setCell ⟨P + 1, 0, none⟩ x').cell? ⟨P + 1, 0, none⟩ = some x' ∧
    ((w.setCell ⟨P, 0, none⟩ u').setCell ⟨P + 1, 0, none⟩ x').heap[P]? = some (.cells #[u'] t (0, 0)) ∧ ((w.setCell ⟨P, 0, none⟩ u').setCell ⟨P + 1, 0, none⟩ x').heap[P + 1]? = some (.cells #[x'] t' (0, 0)) := by
  have a1 : (w.setCell ⟨P, 0, none⟩ u').heap[P]? = some (.cells #[u'] t (0, 0)) := heap_setCell_same w P 0 _ _ u' h1
  have a2 : (w.setCell ⟨P, 0, none⟩ u').heap[P + 1]? = some (.cells #[x] t' (0, 0)) := (Below.heap_setCell w _ _ (P + 1) (by simp)).trans h2
  have b1 : ((w.setCell ⟨P, 0, none⟩ u').setCell ⟨P + 1, 0, none⟩ x').heap[P]? = some (.cells #[u'] t (0, 0)) := (Below.heap_setCell _ _ _ P (by simp)).trans a1
  have b2 : ((w.setCell ⟨P, 0, none⟩ u').setCell ⟨P + 1, 0, none⟩ x').heap[P + 1]? = some (.cells #[x'] t' (0, 0)) := heap_setCell_same _ (P + 1) 0 _ _ x' a2
  exact ⟨by rw [cell_of_row _ _ 0 _ _ _ b1]; rfl, by rw [cell_of_row _ _ 0 _ _ _ b2]; rfl, b1, b2⟩
theorem Ch.ptr {w : World} {B m : Nat} {fs zs : List Int} : ∀ {i d : Nat} {v : Value}, Ch w B m fs zs i d v → ∃ q, v = .pointer q
  | _, 0, _, h => ⟨none, h⟩
  | _, _ + 1, _, ⟨_, _, e, _⟩ => ⟨_, e⟩
theorem one_cell {w : World} {P : Nat} {u : Value} {t : TypeId} (h : w.heap[P]? = some (.cells #[u] t (0, 0))) : w.cell? ⟨P, 0, none⟩ = some u ∧ w.frozen? ⟨P, 0, none⟩ = false :=
  ⟨by rw [cell_of_row _ _ 0 _ _ _ h]; rfl, frozen_of_row w P 0 _ _ h⟩

set_option maxHeartbeats 3200000 in
theorem walk_ref (n m : Int) (v : Value) (k : Nat) (fs zs : List Int) (p : Option Addr) (c : Nat) (C : Int) (w : World) (hs : Sa w v k fs) (hk : k ≤ 9223372036854775807) (hz : Sl w (.slice p zs.length c) zs) (hl : zs.length ≤ 9223372036854775807) (hC : stepsC n m k fs zs = C) (h0 : ¬ C = 0) :
    Calls Tryd.prog 23 #[.agg #[.int .i64 n, .int .i64 m, v], .slice p zs.length c] w fun e w' => e = .returned (.tuple #[.pointer none, .int .i64 C]) ∧ Below w.heap.size w w' := by
  have hmf : ∀ (fn : Fn) (first cap : Array Value) (w : World), (Instr.makeFunc fn first cap).run Tryd.prog w = .ok (.func fn first cap) w := fun _ _ _ _ => rfl
  obtain ⟨W, hW⟩ : ∃ W, W = ((w.alloc (.cells #[.int .i64 n, .int .i64 m, v] 31)).alloc (.cells #[.pointer none] 46)).alloc (.cells #[.int .i64 0] 2) := ⟨_, rfl⟩
  have D0 : Below w.heap.size w W := by rw [hW]; exact (((Below.refl _ _).alloc (Nat.le_refl _) _).alloc (by simp) _).alloc (by simp; omega) _
  have XP : Hid (W.heap[w.heap.size + 1]? = some (.cells #[.pointer none] 46 (0, 0))) := by
    show _ = _; rw [hW]; exact heap_old_at (heap_new_at _ _ _ (by simp)) _
  have XQ : Hid (W.heap[w.heap.size + 1 + 1]? = some (.cells #[.int .i64 0] 2 (0, 0))) := by
    show _ = _; rw [hW]; exact heap_new_at _ _ _ (by simp)
  have hm := steps_any n m v k fs zs p c W (hs.below D0) hk (hz.below D0) hl
  rw [hC] at hm
  have HD := Lib.hid D0
  have hne : (C != 0) = true := by simpa using h0
  clear hs hz D0 hC h0
  go_enter_defers Tryd.func23, Tryd.ntmps23
  go_wp2_with (go_at_call 34; rw [← hW]; refine hm.mono ?_; rintro e w1 ⟨rfl, hb1⟩; have HX1 := Lib.hid ((hb1.block (w.heap.size + 1) (Array.getElem?_eq_some_iff.1 XP.out).1).trans XP.out); have HY1 := Lib.hid ((hb1.block (w.heap.size + 1 + 1) (Array.getElem?_eq_some_iff.1 XQ.out).1).trans XQ.out); have HB1 := Lib.hid (HD.out.trans (hb1.mono HD.out.size)); obtain ⟨c1, f1⟩ := one_cell HX1.out; obtain ⟨c2, f2⟩ := one_cell HY1.out; clear hb1)
  obtain ⟨d1, d2, -, -⟩ := pair_set HX1.out HY1.out (.pointer none) (.int .i64 C)
  have HB2 : Hid (Below w.heap.size w ((w1.setCell ⟨w.heap.size + 1, 0, none⟩ (.pointer none)).setCell ⟨w.heap.size + 1 + 1, 0, none⟩ (.int .i64 C))) := (HB1.out.setCell (p := ⟨w.heap.size + 1, 0, none⟩) (by simp) _).setCell (p := ⟨w.heap.size + 1 + 1, 0, none⟩) (by simp; omega) _
  simp [bodyPostD, Leaves, results, Tryd.results23, go_sem, d1, d2]
  exact HB2.out

set_option maxHeartbeats 6400000 in
theorem walk_yes (n m k cap : Nat) (sa : Option Addr) (fs zs : List Int) (p : Option Addr) (c : Nat) (w : World) (hs : Sa w (.slice sa k cap) k fs) (hav : AvOk n m k fs) (hnm : n ≤ 10 ∧ m ≤ 62 ∧ k ≤ 16) (hz : Sl w (.slice p zs.length c) zs) (hc : zs.length ≤ c) (hg : isB n m k fs = true) (h14 : zs.length ≤ 14) (hnb : nbTo k zs zs.length = true) (hw : isW m fs zs = true) :
    Calls Tryd.prog 23 #[.agg #[.int .i64 n, .int .i64 m, .slice sa k cap], .slice p zs.length c] w fun e w' => (∃ v, e = .returned (.tuple #[v, .int .i64 0]) ∧ Ch w' w.heap.size m fs zs 0 zs.length v) ∧ Below w.heap.size w w' := by
  have hmf : ∀ (fn : Fn) (first cap : Array Value) (w : World), (Instr.makeFunc fn first cap).run Tryd.prog w = .ok (.func fn first cap) w := fun _ _ _ _ => rfl
  obtain ⟨W, hW⟩ : ∃ W, W = ((w.alloc (.cells #[.int .i64 n, .int .i64 m, .slice sa k cap] 31)).alloc (.cells #[.pointer none] 46)).alloc (.cells #[.int .i64 0] 2) := ⟨_, rfl⟩
  have D0 : Below w.heap.size w W := by rw [hW]; exact (((Below.refl _ _).alloc (Nat.le_refl _) _).alloc (by simp) _).alloc (by simp; omega) _
  have XP : Hid (W.heap[w.heap.size + 1]? = some (.cells #[.pointer none] 46 (0, 0))) := by
    show _ = _; rw [hW]; exact heap_old_at (heap_new_at _ _ _ (by simp)) _
  have XQ : Hid (W.heap[w.heap.size + 1 + 1]? = some (.cells #[.int .i64 0] 2 (0, 0))) := by
    show _ = _; rw [hW]; exact heap_new_at _ _ _ (by simp)
  have hm := steps_any n m (.slice sa k cap) k fs zs p c W (hs.below D0) (by omega) (hz.below D0) (by omega)
  rw [stepsC_yes hg h14 hnb] at hm
  have XB : Hid (W.heap[w.heap.size]? = some (.cells #[.int .i64 n, .int .i64 m, .slice sa k cap] 31 (0, 0))) := by
    show _ = _; rw [hW]; exact heap_old_at (heap_old_at (heap_new_at _ _ _ rfl) _) _
  have sW : w.heap.size + 1 + 1 < W.heap.size := (Array.getElem?_eq_some_iff.1 XQ.out).1
  have HST : Hid (∀ W1, Below W.heap.size W W1 → Calls Tryd.prog 37 #[.agg #[.int .i64 n, .int .i64 m, .slice sa k cap]] W1 fun e w' => e = .returned (.slice (some ⟨W1.heap.size + 1, 0, none⟩) (2 * k) (2 * k)) ∧ Hid (w'.ownsRow (W1.heap.size + 1) 52 4 (.slice (some ⟨W1.heap.size + 1, 0, none⟩) (2 * k) (2 * k)) (2 * k) (stL m fs (2 * k))) ∧ Below W1.heap.size W1 w') := fun W1 h =>
    stepsOf_any n m k cap sa fs W1 (hs.below (D0.trans (h.mono D0.size))) hav hnm
  have HLI : Hid (∀ (G B : Nat) W1, Below W.heap.size W W1 → W1.ownsRow B 52 4 (.slice (some ⟨G, 0, none⟩) (2 * k) (2 * k)) (2 * k) (stL m fs (2 * k)) → Calls Tryd.prog 36 #[.slice (some ⟨G, 0, none⟩) (2 * k) (2 * k), .slice p zs.length c] W1 fun e w' => (∃ v, e = .returned v ∧ Ch w' W1.heap.size m fs zs 0 zs.length v) ∧ Below W1.heap.size W1 w') := fun G B W1 h ho => by
    have h' := D0.trans (h.mono D0.size)
    rcases hz with ⟨_, _, e, e2⟩ | ⟨b, off, _, e, h1, h2⟩
    · exact link_yes m (2 * k) B G 0 0 fs zs h14 (fun i hi => nbTo_at hnb hi) zs.length 0 c p W1 (by omega) hc (.inl (by simp [e2])) ho (fun j _ h2 => (isW_iff m fs zs).1 hw j h2)
    · injection e with e1 _ _
      exact link_yes m (2 * k) B G b off fs zs h14 (fun i hi => nbTo_at hnb hi) zs.length 0 c p W1 (by omega) hc (.inr ⟨by rw [e1]; rfl, Nat.lt_of_lt_of_le h1 h'.size, h2.below h' h1⟩) ho (fun j _ h2 => (isW_iff m fs zs).1 hw j h2)
  have HD := Lib.hid D0
  obtain ⟨K, hK⟩ : ∃ K, K = 2 * k := ⟨_, rfl⟩
  rw [← hK] at HST HLI
  clear hs hz D0 hg hnb hw hav hnm hK
  go_enter_defers Tryd.func23, Tryd.ntmps23
  go_wp2_with fail
  rw [← hW]
  clear hW
  refine hm.mono ?_
  rintro e w1 ⟨rfl, hb1⟩
  have hst := Lib.hid (HST.out w1 hb1)
  have HX1 := Lib.hid ((hb1.block (w.heap.size + 1) (by omega)).trans XP.out)
  have HY1 := Lib.hid ((hb1.block (w.heap.size + 1 + 1) (by omega)).trans XQ.out)
  have HZ1 := Lib.hid ((hb1.block w.heap.size (by omega)).trans XB.out)
  have HB1 := Lib.hid hb1
  have s1 := hb1.size
  obtain ⟨⟨b0, b1, b2⟩, -⟩ := three_cells HZ1.out
  clear hm HST hb1 XP XQ XB
  go_wp2_with fail
  refine hst.out.mono ?_
  rintro e w2 ⟨rfl, HO, hb2⟩
  have hli := Lib.hid (HLI.out _ _ w2 (HB1.out.trans (hb2.mono s1)) HO.out)
  have HX2 := Lib.hid ((hb2.block (w.heap.size + 1) (by omega)).trans HX1.out)
  have HY2 := Lib.hid ((hb2.block (w.heap.size + 1 + 1) (by omega)).trans HY1.out)
  have HB2 := Lib.hid (HB1.out.trans (hb2.mono s1))
  have s2 := hb2.size
  clear hst HLI hb2 HX1 HY1 HZ1 HB1 b0 b1 b2 HO
  go_wp2_with fail
  refine hli.out.mono ?_
  rintro e w3 ⟨⟨v, rfl, hch⟩, hb3⟩
  obtain ⟨q, rfl⟩ := hch.ptr
  have HC := Lib.hid hch
  have HX3 := Lib.hid ((hb3.block (w.heap.size + 1) (by omega)).trans HX2.out)
  have HY3 := Lib.hid ((hb3.block (w.heap.size + 1 + 1) (by omega)).trans HY2.out)
  have HB3 := Lib.hid ((HD.out.trans (HB2.out.mono HD.out.size)).trans (hb3.mono (by omega)))
  obtain ⟨c1, f1⟩ := one_cell HX3.out
  obtain ⟨c2, f2⟩ := one_cell HY3.out
  clear hli hb3 HX2 HY2 HB2 hch
  go_wp2_with fail
  obtain ⟨-, -, HX4, HY4⟩ := pair_set HX3.out HY3.out (.pointer q) (.int .i64 0)
  have HB4 : Hid (Below w.heap.size w ((w3.setCell ⟨w.heap.size + 1, 0, none⟩ (.pointer q)).setCell ⟨w.heap.size + 1 + 1, 0, none⟩ (.int .i64 0))) := (HB3.out.setCell (p := ⟨w.heap.size + 1, 0, none⟩) (by simp) _).setCell (p := ⟨w.heap.size + 1 + 1, 0, none⟩) (by simp; omega) _
  have HC4 : Hid (Ch ((w3.setCell ⟨w.heap.size + 1, 0, none⟩ (.pointer q)).setCell ⟨w.heap.size + 1 + 1, 0, none⟩ (.int .i64 0)) w.heap.size m fs zs 0 zs.length (.pointer q)) := HC.out.kept (by omega) (fun g h _ => (Below.heap_setCell _ _ _ g (by simp; omega)).trans (Below.heap_setCell _ _ _ g (by simp; omega)))
  obtain ⟨d1, -⟩ := one_cell HX4
  obtain ⟨d2, -⟩ := one_cell HY4
  refine leaves_cons (f := 35) (args := #[.pointer (some ⟨w.heap.size + 1, 0, none⟩), .pointer (some ⟨w.heap.size + 1 + 1, 0, none⟩)]) (by simp) (by simp [go_sem]) ?_
  refine (catch_idle ⟨w.heap.size + 1, 0, none⟩ ⟨w.heap.size + 1 + 1, 0, none⟩ _).mono ?_
  rintro e u' w'' ⟨rfl, rfl, rfl⟩
  simp [Leaves, settle, results, Tryd.results23, go_sem, d1, d2]
  exact ⟨HC4.out, HB4.out⟩
end Go.Proofs.YthonkphjahomeaaDoor
