/-
  impl.listOf: the places of a row's digits 1, in a list of their own. (Without the turning of rows.)
-/
import Derived.Test.YtklgimikdnokcaaDoorSeq
import Derived.RangeFuncBox
namespace Go.Proofs.YtklgimikdnokcaaDoor
set_option maxRecDepth 100000
open Go.RowKit Go.Shelf

attribute [local go_sem] Oper.semAt_some

/-- The marks of loops over iterators among an activation's deferred calls. -/
def marks (Ds : List Nat) : List Deferred := Ds.map fun D => { target := .collected D, args := #[] }
/-- The blocks of such marks, each there once, each with no call in it. -/
def DsOk (H : Nat) (W : World) (Ds : List Nat) : Prop := Ds.Nodup ∧ ∀ D, D ∈ Ds → H ≤ D ∧ W.heap[D]? = some (.deferred (some []))

theorem DsOk.alloc {H : Nat} {W : World} {Ds : List Nat} (h : DsOk H W Ds) (o : Obj) : DsOk H (W.alloc o) Ds :=
  ⟨h.1, fun D hD => ⟨(h.2 D hD).1, (Below.heap_alloc W o D (Array.getElem?_eq_some_iff.1 (h.2 D hD).2).1).trans (h.2 D hD).2⟩⟩
theorem DsOk.kept {H : Nat} {W W' : World} {Ds : List Nat} (h : DsOk H W Ds) (hk : ∀ D, D ∈ Ds → W'.heap[D]? = W.heap[D]?) : DsOk H W' Ds :=
  ⟨h.1, fun D hD => ⟨(h.2 D hD).1, (hk D hD).trans (h.2 D hD).2⟩⟩
theorem leaves_marks {F : Fence} {n : Nat} {P : Program} {fn : Func} {tmps : Array Value} {R : Ending → World → Prop} {H : Nat} : ∀ (Ds : List Nat) (W : World), DsOk H W Ds →
    (∀ W', (∀ k, k ∉ Ds → W'.heap[k]? = W.heap[k]?) → Below H W W' → LeavesIn F n P fn tmps R [] .returning W') → LeavesInM F n P fn tmps R (marks Ds) .returning W
  | [], W, _, h => h W (fun _ _ => rfl) (Below.refl _ _)
  | D :: Ds, W, hD, h => by
    have h1 := hD.2 D List.mem_cons_self
    refine ⟨by simp, .inl ⟨D, _, rfl, run_takeDeferred h1.2, ?_⟩⟩
    have hnd := List.nodup_cons.1 hD.1
    have hlt := (Array.getElem?_eq_some_iff.1 h1.2).1
    have hp : ∀ k, k ≠ D → (W.putObj D (.deferred none)).heap[k]? = W.heap[k]? := fun k hk => World.putObj_heap_other hk
    have hb : Below H W (W.putObj D (.deferred none)) := (Below.refl H W).grown (grownBy_putObj' W D (.deferred none)) (by omega) (fun k e => by cases e; exact h1.1)
    refine leaves_marks Ds _ ⟨hnd.2, fun E hE => ⟨(hD.2 E (List.mem_cons_of_mem _ hE)).1, (hp E (fun e => hnd.1 (e ▸ hE))).trans (hD.2 E (List.mem_cons_of_mem _ hE)).2⟩⟩ fun W' h2 h3 => ?_
    exact h W' (fun k hk => (h2 k (fun e => hk (List.mem_cons_of_mem _ e))).trans (hp k (fun e => hk (e ▸ List.mem_cons_self)))) (hb.trans h3)
theorem at_world {F : Fence} {n : Nat} {P : Program} {c : Code} {Q : Exit → Act → World → Prop} {a : Act} {w w' : World} (h : c.wpIn F n P Q a w') (e : w = w') : c.wpIn F n P Q a w := e ▸ h

/-- Numbers as values. -/
def natsV (l : List Nat) : List Value := l.map fun j : Nat => Value.int .i64 (j : Int)
theorem natsV_append (l m : List Nat) : natsV (l ++ m) = natsV l ++ natsV m := by simp [natsV]
theorem mem_to (x len : Nat) (h : x < 2 ^ len) (hl : len ≤ 64) : mem x = (List.range len).filter fun j => x.testBit j := by
  have key : ∀ d, (List.range (len + d)).filter (fun j => x.testBit j) = (List.range len).filter fun j => x.testBit j := by
    intro d
    induction d with
    | zero => rfl
    | succ d ih =>
      have hb : x.testBit (len + d) = false := Nat.testBit_lt_two_pow (Nat.lt_of_lt_of_le h (Nat.pow_le_pow_right (by decide) (by omega)))
      rw [← Nat.add_assoc, List.range_succ, List.filter_append, ih]
      simp [hb]
  have := key (64 - len)
  rw [show len + (64 - len) = 64 by omega] at this
  exact this

theorem mem_len64 (x : Nat) : (mem x).length ≤ 64 := by
  unfold mem; exact Nat.le_trans (List.length_filter_le _ _) (by simp)

set_option maxRecDepth 100000 in
set_option maxHeartbeats 2000000 in
theorem listOf_in (x : Nat) (hx : x < 9223372036854775808) (w : World) (hT : Tab w) :
    CallsIn Fence.wide 5 Tryd.prog 47 #[.int .i64 x] w fun e w' => ∃ u, e = .returned u ∧ w'.ownsRow w.heap.size 2 1 u (mem x).length (natsV (mem x)) ∧ Below w.heap.size w w' := by
  obtain ⟨i0, hi, hz0, hz1, hz2⟩ := info_parts mk_info
  have HI := Lib.hid hi; have HI0 := Lib.hid hz0; have HI1 := Lib.hid hz1; have HI2 := Lib.hid hz2
  clear hi hz0 hz1 hz2
  refine callsIn_of_wp_marks Tryd.func47 rfl trivial ?_ rfl
  simp only [Tryd.ntmps47, List.size_toArray, List.length_cons, List.length_nil, Nat.reduceAdd, Nat.reduceSub, Array.replicate_succ, Array.replicate_zero, List.push_toArray, List.append_toArray, List.nil_append, List.cons_append]
  gi_wp2_with (refine ⟨trivial, ?_⟩; gi_at_call 64; refine (callsIn_wide.2 (membersOf_any _ _)).mono ?_; rintro e w' ⟨rfl, rfl⟩)
  obtain ⟨W1, hW1⟩ : ∃ W1, W1 = (w.alloc (.cells #[.slice none 0 0] 24)).alloc (.cells #[.int .i64 x] 2) := ⟨_, rfl⟩
  refine at_world (w' := W1) ?_ hW1.symm
  have hs1 : W1.heap.size = w.heap.size + 2 := by rw [hW1]; simp
  have hb1 : Boxed W1 w.heap.size 24 (.slice none 0 0) := by rw [hW1]; exact (Boxed.new w 24 _).alloc _
  have hc1 : W1.cell? ⟨w.heap.size + 1, 0, none⟩ = some (.int .i64 x) := by rw [hW1]; have := World.cell?_alloc_new (w := w.alloc (.cells #[.slice none 0 0] 24)) #[.int .i64 x] 2 0; rw [World.size_alloc] at this; rw [this]; rfl
  have hB1 : Below w.heap.size w W1 := by rw [hW1]; exact ((Below.refl _ w).alloc (by omega) _).alloc (by simp) _
  have hT1 : Tab W1 := hT.belowAll hB1
  have h0 := hT.lt
  refine wpIn_rangeFunc_ownF rfl (by omega) (gf := 67) (lb := #[.pointer (some ⟨w.heap.size + 1, 0, none⟩)]) rfl trivial (enters_of Tryd.func67 (by kernel_rfl) rfl)
    (members_stops 4 (by omega) (w.heap.size + 1) w.heap.size x hx W1 (by omega) hc1 hT1 h0) belowK_t (belowK_b (by omega)) (Below.refl _ _) (fun _ => rfl)
    (fun pre W' => ∃ u, Boxed W' w.heap.size 24 u ∧ W'.ownsRow w.heap.size 2 1 u pre.length (natsV pre.unattach) ∧ Below w.heap.size w W')
    (fun _ _ _ => False)
    ?hI (fun _ _ _ _ _ hs _ _ => hs) ?h0 (fun y => { tmps := #[.int .i64 x, undef, .slice none 0 0, .pointer (some ⟨w.heap.size, 0, none⟩), .int .i64 y.1, .int .i64 x, .func (.func 67) #[] #[.pointer (some ⟨w.heap.size + 1, 0, none⟩)], .int .i64 y.1, undef, undef, undef, undef, undef], defers := [] }) ?assign ?body ?done ?stop
  case hI =>
    rintro pre A B row ⟨u, hv, hr, hb⟩ hg hrow
    have key : ∀ r, row = some r → w.heap.size ≤ r := fun r e => by have := (hrow r e).1; omega
    refine ⟨u, hv.kept hg (fun e' => ?_), hr.kept hg ?_, hb.grown hg hb.size key⟩
    · obtain ⟨_, o, ho, hc⟩ := hrow _ e'.symm
      rw [show A.heap[w.heap.size]? = _ from hv] at ho; cases ho; cases hc
    · rcases hr.2 with ⟨rfl, _⟩ | ⟨g, cap, cur, rfl, _, hgb, _⟩
      · exact .inl rfl
      · refine .inr fun e' => ?_
        obtain ⟨_, o, ho, hc⟩ := hrow g (by simpa [Value.ownBlock] using e'.symm)
        rw [hgb] at ho; cases ho; cases hc
  case h0 => exact ⟨_, hb1, World.ownsRow_nil W1 _ _ 1, hB1⟩
  case assign =>
    intro l y W K hK
    gi_wp2
    exact hK
  case body =>
    rintro l pre y W' ⟨u, hv, hr, hb⟩ hlen
    have cv := hv.cell
    have hm := mem_len64 x
    have hml : (memL x).length = (mem x).length := by unfold memL; simp
    have hsz := hb.size
    gi_wp2_with (gi_at_builtin; refine wpListIn_append_own _ rfl _ _ 24 rfl w.heap.size 2 i0 (.int .i64 0) 1 8 Tryd.underlying24 HI.out HI0.out HI1.out HI2.out rfl (by decide) _ _ _ rfl (World.ownsRow.alloc hr _) ⟨W'.heap.size, 0, none⟩ 1 1 [.int .i64 y.1] rfl rfl (cell_one_new _ _ _) (by simp [Value.oneCell']) (by unfold maxLen; omega) (by omega) (by simp; omega) ?_; intro u' w3 hown3 hgr3 _; obtain ⟨g, cp, rfl⟩ := ownsRow_succ hown3; obtain ⟨p1, p2, p3, p4, p5⟩ := hv.appended (by decide) hr hsz (Nat.le_refl _) hown3 hgr3; have c3 := p1.cell; have f3 := p1.frozen; have HP2 := Lib.hid p2; have HP3 := Lib.hid p3; have HP4 := Lib.hid p4; have HP5 := Lib.hid p5; clear p1 p2 p3 p4 p5 hown3 hgr3 hm hml)
    refine ⟨HP4.out, HP5.out, _, HP2.out, ?_, hb.trans HP5.out⟩
    rw [List.length_append, List.unattach_append, natsV_append]
    exact HP3.out
  case done =>
    rintro D ys W2 hDD rfl ⟨u, hv, hr, hb⟩ hK
    have cv := hv.cell
    have HR := Lib.hid hr; clear hr
    gi_wp2
    refine leaves_marks (H := w.heap.size + 1) [D] _ ⟨by simp, fun E hE => ?_⟩ fun W' hs hb' => ?_
    · obtain rfl : E = D := by simpa using hE
      exact ⟨by omega, hK⟩
    · refine ⟨_, results_tmp rfl _ _ _, u, rfl, ?_, hb.trans (hb'.mono (by omega))⟩
      have hrow := HR.out
      rw [show (memL x).length = (mem x).length by unfold memL; simp, show (memL x).unattach = mem x from memL_val x] at hrow
      refine hrow.kept (row := some D) ⟨hb'.os, hb'.tape, hb'.output, hb'.size, fun k _ hne => hs k (fun e => hne (by simpa using e))⟩ ?_
      rcases hrow.2 with ⟨rfl, _⟩ | ⟨g, cap, cur, rfl, _, hgb, _⟩
      · exact .inl rfl
      · refine .inr fun e' => ?_
        obtain rfl : g = D := by simpa [Value.ownBlock] using e'
        rw [hgb] at hK; cases hK
  case stop =>
    rintro D c pre W _ _ h _
    exact h.elim

theorem listOf_any (x : Nat) (hx : x < 9223372036854775808) (w : World) (hT : Tab w) :
    Calls Tryd.prog 47 #[.int .i64 x] w fun e w' => ∃ u, e = .returned u ∧ w'.ownsRow w.heap.size 2 1 u (mem x).length (natsV (mem x)) ∧ Below w.heap.size w w' :=
  callsIn_wide.1 (listOf_in x hx w hT)

end Go.Proofs.YtklgimikdnokcaaDoor
