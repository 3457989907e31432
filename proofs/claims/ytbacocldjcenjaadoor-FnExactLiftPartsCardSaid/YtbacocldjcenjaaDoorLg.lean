/-
  impl.liftedArcs: the iterator. (A plain seat of bases and graphs of pairs.)
-/
import Derived.Test.YtbacocldjcenjaaDoorLf
namespace Go.Proofs.YtbacocldjcenjaaDoor
set_option maxRecDepth 100000
open Go.RowKit Go.Shelf

attribute [local go_sem] Oper.semAt_some
attribute [local go_sem] wide_fn

/-- What a round of a loop over the arcs of a lift keeps: the two boxes that the iterator reads. -/
def KpB (a b : Nat) (W W' : World) : Prop := W'.heap[a]? = W.heap[a]? ∧ W'.heap[b]? = W.heap[b]?
theorem KpB.tr {a b : Nat} {A B C : World} (h : KpB a b A B) (k : KpB a b B C) : KpB a b A C := ⟨k.1.trans h.1, k.2.trans h.2⟩
theorem KpB.put {a b : Nat} {w : World} (ha : a < w.heap.size) (hb : b < w.heap.size) (W : World) (l : Nat) (o o' : Obj) (hl : w.heap.size ≤ l) (h : W.heap[l]? = some o) (_ : o.isCells = false) (_ : o.isWalk = false) : KpB a b W (W.putObj l o') := by
  have hlt := (Array.getElem?_eq_some_iff.1 h).1
  have hg := grownBy_putObj' W l o'
  exact ⟨hg.block a (by omega) (fun e => by cases e; omega), hg.block b (by omega) (fun e => by cases e; omega)⟩
theorem KpB.of_below {a b : Nat} {W W' : World} (h : Below W.heap.size W W') (ha : a < W.heap.size) (hb : b < W.heap.size) : KpB a b W W' := ⟨h.block a ha, h.block b hb⟩
theorem KpB.of_grown {a b : Nat} {W W' : World} {r : Nat} (h : W.grownBy W' (some r)) (ha : a < W.heap.size) (hb : b < W.heap.size) (ha2 : a ≠ r) (hb2 : b ≠ r) : KpB a b W W' :=
  ⟨h.block a ha (fun e => by cases e; exact ha2 rfl), h.block b hb (fun e => by cases e; exact hb2 rfl)⟩

theorem take_fin {m k : Nat} (h : k < m) : (List.finRange m).take (k + 1) = (List.finRange m).take k ++ [⟨k, h⟩] := by
  rw [List.take_succ_eq_append_getElem (by simpa using h)]
  congr 1
  simp

set_option maxRecDepth 100000 in
set_option maxHeartbeats 2000000 in
theorem lifted1_in (n : Nat) (hn : 1 ≤ n) (l B a b m f t c q : Nat) (hq : q = f * m) (hm1 : 1 ≤ m) (hm2 : m ≤ 62) (hf : f ≤ 10) (ht : t ≤ 10) (hc : c < m) (J Jx : List (Fin m) → World → Prop) (hA : AbidesFrom B J)
    (hY : ∀ pre (x : Fin m) W, J pre W → pre.length < m → YieldAt Fence.wide (n - 1) Tryd.prog l #[.int .i64 ((q + x.1 : Nat) : Int), .int .i64 ((t * m + (x.1 + c) % m : Nat) : Int)] W fun e W' =>
      (e = .returned (.bool true) ∧ J (pre ++ [x]) W' ∧ KpB a b W W') ∨ (e = .returned (.bool false) ∧ Jx (pre ++ [x]) W'))
    (W : World) (ha : W.heap[a]? = some (.cells #[.int .i64 f, .int .i64 t, .int .i64 c] 51 (0, 0))) (hb : W.heap[b]? = some (.cells #[.int .i64 m] 2 (0, 0))) (h0 : J [] W) :
    CallsIn Fence.wide n Tryd.prog 35 #[.func (.yield l) #[] #[], .pointer (some ⟨a, 0, none⟩), .pointer (some ⟨b, 0, none⟩)] W fun e W' => (∃ v, e = .returned v) ∧
      ((∃ ys, ys = List.finRange m ∧ J ys W') ∨ (∃ pre, pre <+: List.finRange m ∧ Jx pre W')) := by
  have hqm : q ≤ 10 * 62 := by rw [hq]; exact Nat.mul_le_mul hf hm2
  have e1 : (f : Int) * (m : Int) = (q : Int) := by rw [hq]; push_cast; rfl
  have e2 : ((f : Int) + 1) * (m : Int) = ((q + m : Nat) : Int) := by rw [hq]; push_cast; rw [Int.add_mul]; simp
  obtain ⟨E, hE⟩ : ∃ E, E = q + m := ⟨_, rfl⟩
  rw [← hE] at e2
  have hE1 : (E : Int) ≤ 682 := by omega
  have hE0 : (0 : Int) ≤ E := by omega
  have HA := Lib.hid hA; have HY := Lib.hid hY; have HQ := Lib.hid hq
  obtain ⟨⟨a0, a1, a2⟩, -⟩ := three_cells ha
  have b0 : W.cell? ⟨b, 0, none⟩ = some (.int .i64 m) := by rw [cell_of_row W b 0 _ _ _ hb]; rfl
  have HAA := Lib.hid ha; have HBB := Lib.hid hb
  clear hA hY ha hb hq
  refine callsIn_of_wp Tryd.func35 rfl trivial ?_ rfl
  simp only [Tryd.ntmps35, List.size_toArray, List.length_cons, List.length_nil, Nat.reduceAdd, Nat.reduceSub, Array.replicate_succ, Array.replicate_zero, List.push_toArray, List.append_toArray, List.nil_append, List.cons_append]
  gi_wp2
  gi_loopw [4] (fun v wr => ∃ k : Nat, k ≤ m ∧ v = .int .i64 ((q + k : Nat) : Int) ∧ J ((List.finRange m).take k) wr ∧ Hid (wr.heap[a]? = some (.cells #[.int .i64 f, .int .i64 t, .int .i64 c] 51 (0, 0))) ∧ Hid (wr.heap[b]? = some (.cells #[.int .i64 m] 2 (0, 0)))) (fun v _ => q + m - (intOf v).toNat)
  case atStart =>
    exact ⟨0, Nat.zero_le _, rfl, by simpa using h0, HAA, HBB⟩
  case round =>
    clear a0 a1 a2 b0 h0 HAA HBB
    obtain ⟨k, hk, rfl, hJ, HAr, HBr⟩ := hrel
    obtain ⟨⟨a0, a1, a2⟩, -⟩ := three_cells HAr.out
    have b0 : wr.cell? ⟨b, 0, none⟩ = some (.int .i64 m) := by rw [cell_of_row wr b 0 _ _ _ HBr.out]; rfl
    obtain ⟨V, hV⟩ : ∃ V, V = q + k := ⟨_, rfl⟩
    rw [← hV]
    by_cases hlt : k < m
    · have hVE : (V : Int) < E := by omega
      obtain ⟨R, hR⟩ : ∃ R, R = t * m + (k + c) % m := ⟨_, rfl⟩
      have hmv : (V + c) % m = (k + c) % m := by
        rw [hV, HQ.out, Nat.add_assoc, Nat.add_comm (f * m), Nat.add_mul_mod_self_right]
      have hel := fun W => endL_any m f t c V R W hm1 hm2 ht hc (by omega) (by rw [hmv]; exact hR)
      have HEL := Lib.hid hel
      have HYY : Hid (∀ W1, J ((List.finRange m).take k) W1 → YieldAt Fence.wide (n - 1) Tryd.prog l #[.int .i64 V, .int .i64 R] W1 fun e W' => (e = .returned (.bool true) ∧ J ((List.finRange m).take (k + 1)) W' ∧ KpB a b W1 W') ∨ (e = .returned (.bool false) ∧ Jx ((List.finRange m).take (k + 1)) W')) := fun W1 h1 => by
        have h := HY.out _ ⟨k, hlt⟩ W1 h1 (by simp; omega)
        rw [← take_fin hlt] at h
        rw [hV, hR]
        exact h
      have HV := Lib.hid hV
      clear hel hmv hR hV
      gi_wp2_with (gi_at_call 36; refine (callsIn_wide.2 (HEL.out _)).mono ?_; rintro e w5 ⟨rfl, hb5⟩; obtain ⟨fn, tmps, assign, body, hyy, hRR⟩ := HYY.out w5 (HA.out _ _ _ none hJ (grown_of_below hb5 none) (fun r e => by cases e)))
      refine hRR.mono ?_
      rintro e W3 (⟨rfl, hJ3, hk3⟩ | ⟨rfl, hJx3⟩)
      · have HA3 : Hid (W3.heap[a]? = some (.cells #[.int .i64 f, .int .i64 t, .int .i64 c] 51 (0, 0))) := hk3.1.trans ((hb5.block a (Array.getElem?_eq_some_iff.1 HAr.out).1).trans HAr.out)
        have HB3 : Hid (W3.heap[b]? = some (.cells #[.int .i64 m] 2 (0, 0))) := hk3.2.trans ((hb5.block b (Array.getElem?_eq_some_iff.1 HBr.out).1).trans HBr.out)
        clear hk3
        gi_wp2
        go_roundw
        case rel => exact ⟨k + 1, hlt, by rw [HV.out]; go_num, hJ3, HA3, HB3⟩
        case measure => have := HV.out; simp [intOf]; omega
      · gi_wp2
        refine bodyPost_ret (results_none rfl _ _ _) rfl ?_
        exact ⟨⟨_, rfl⟩, .inr ⟨_, List.take_prefix _ _, hJx3⟩⟩
    · obtain rfl : k = m := by omega
      have hVE : ¬ (V : Int) < E := by omega
      rw [List.take_of_length_le (by simp)] at hJ
      clear hV hE
      gi_wp2
      go_end0
      exact ⟨⟨_, rfl⟩, .inl hJ⟩

theorem lifted_stops (n : Nat) (hn : 1 ≤ n) (a b m f t c q : Nat) (hq : q = f * m) (hm1 : 1 ≤ m) (hm2 : m ≤ 62) (hf : f ≤ 10) (ht : t ≤ 10) (hc : c < m) (w : World)
    (ha : w.heap[a]? = some (.cells #[.int .i64 f, .int .i64 t, .int .i64 c] 51 (0, 0))) (hb : w.heap[b]? = some (.cells #[.int .i64 m] 2 (0, 0))) :
    SeqStopsK Fence.wide n Tryd.prog 35 #[.pointer (some ⟨a, 0, none⟩), .pointer (some ⟨b, 0, none⟩)] (fun x : Fin m => #[.int .i64 ((q + x.1 : Nat) : Int), .int .i64 ((t * m + (x.1 + c) % m : Nat) : Int)]) (KpB a b) (fun ys => ys = List.finRange m) (fun pre => pre <+: List.finRange m) m w := by
  intro l J Jx W hW hJ _ hY h0
  exact lifted1_in n hn l W.heap.size a b m f t c q hq hm1 hm2 hf ht hc J Jx hJ hY W ((hW.block a (Array.getElem?_eq_some_iff.1 ha).1).trans ha) ((hW.block b (Array.getElem?_eq_some_iff.1 hb).1).trans hb) h0
end Go.Proofs.YtbacocldjcenjaaDoor
