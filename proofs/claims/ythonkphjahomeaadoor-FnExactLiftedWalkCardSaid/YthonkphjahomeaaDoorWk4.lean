/-
  impl.walkOf, whatever comes in.
-/
import Derived.Test.YthonkphjahomeaaDoorWk3
namespace Go.Proofs.YthonkphjahomeaaDoor
set_option maxRecDepth 100000
open Go.RowKit

set_option maxHeartbeats 6400000 in
theorem walk_no (a : Addr) (n m k cap : Nat) (sa : Option Addr) (fs zs : List Int) (p : Option Addr) (c : Nat) (w : World) (hs : Sa w (.slice sa k cap) k fs) (hav : AvOk n m k fs) (hnm : n ≤ 10 ∧ m ≤ 62 ∧ k ≤ 16) (hz : Sl w (.slice p zs.length c) zs) (hc : zs.length ≤ c) (hg : isB n m k fs = true) (h14 : zs.length ≤ 14) (hnb : nbTo k zs zs.length = true) (hw : isW m fs zs = false) (hE : w.cell? ⟨0, 0, none⟩ = some (.iface 74 (.pointer (some a)))) :
    Calls Tryd.prog 23 #[.agg #[.int .i64 n, .int .i64 m, .slice sa k cap], .slice p zs.length c] w fun e w' => e = .returned (.tuple #[.pointer none, .int .i64 5]) ∧ Below w.heap.size w w' := by
  have hmf : ∀ (fn : Fn) (first cap : Array Value) (w : World), (Instr.makeFunc fn first cap).run Tryd.prog w = .ok (.func fn first cap) w := fun _ _ _ _ => rfl
  obtain ⟨W, hW⟩ : ∃ W, W = ((w.alloc (.cells #[.int .i64 n, .int .i64 m, .slice sa k cap] 31)).alloc (.cells #[.pointer none] 46)).alloc (.cells #[.int .i64 0] 2) := ⟨_, rfl⟩
  have D0 : Below w.heap.size w W := by rw [hW]; exact (((Below.refl _ _).alloc (Nat.le_refl _) _).alloc (by simp) _).alloc (by simp; omega) _
  have XP : Hid (W.heap[w.heap.size + 1]? = some (.cells #[.pointer none] 46 (0, 0))) := by
    show _ = _; rw [hW]; exact heap_old_at (heap_new_at _ _ _ (by simp)) _
  have XQ : Hid (W.heap[w.heap.size + 1 + 1]? = some (.cells #[.int .i64 0] 2 (0, 0))) := by
    show _ = _; rw [hW]; exact heap_new_at _ _ _ (by simp)
  have hm := steps_any n m (.slice sa k cap) k fs zs p c W (hs.below D0) (by omega) (hz.below D0) (by omega)
  rw [stepsC_yes hg h14 hnb] at hm
  have XB : Hid (W.heap[w.heap.size]? = some (.cells #[.int .i64 n, .int .i64 m, .slice sa k cap] 31 (0, 0))) := by
    show _ = _; rw [hW]; exact heap_old_at (heap_old_at (heap_new_at _ _ _ rfl) _) _
  have sW : w.heap.size + 1 + 1 < W.heap.size := (Array.getElem?_eq_some_iff.1 XQ.out).1
  have hEl := World.block_lt_of_cell? w _ hE
  have HST : Hid (∀ W1, Below W.heap.size W W1 → Calls Tryd.prog 37 #[.agg #[.int .i64 n, .int .i64 m, .slice sa k cap]] W1 fun e w' => e = .returned (.slice (some ⟨W1.heap.size + 1, 0, none⟩) (2 * k) (2 * k)) ∧ Hid (w'.ownsRow (W1.heap.size + 1) 52 4 (.slice (some ⟨W1.heap.size + 1, 0, none⟩) (2 * k) (2 * k)) (2 * k) (stL m fs (2 * k))) ∧ Below W1.heap.size W1 w') := fun W1 h =>
    stepsOf_any n m k cap sa fs W1 (hs.below (D0.trans (h.mono D0.size))) hav hnm
  have HLI : Hid (∀ (G B : Nat) W1, Below W.heap.size W W1 → W1.ownsRow B 52 4 (.slice (some ⟨G, 0, none⟩) (2 * k) (2 * k)) (2 * k) (stL m fs (2 * k)) → Calls Tryd.prog 36 #[.slice (some ⟨G, 0, none⟩) (2 * k) (2 * k), .slice p zs.length c] W1 fun e w' => Pnc a e ∧ Below W1.heap.size W1 w') := fun G B W1 h ho => by
    have h' := D0.trans (h.mono D0.size)
    have hE' := (h'.cell (p := ⟨0, 0, none⟩) hEl).trans hE
    obtain ⟨j, hj1, hj2⟩ := isW_not hw
    rcases hz with ⟨_, _, e, e2⟩ | ⟨b, off, _, e, h1, h2⟩
    · exact link_no a m (2 * k) B G 0 0 fs zs h14 (fun i hi => nbTo_at hnb hi) zs.length 0 c p W1 (by omega) hc (.inl (by simp [e2])) ho ⟨j, Nat.zero_le _, hj1, hj2⟩ hE'
    · injection e with e1 _ _
      exact link_no a m (2 * k) B G b off fs zs h14 (fun i hi => nbTo_at hnb hi) zs.length 0 c p W1 (by omega) hc (.inr ⟨by rw [e1]; rfl, Nat.lt_of_lt_of_le h1 h'.size, h2.below h' h1⟩) ho ⟨j, Nat.zero_le _, hj1, hj2⟩ hE'
  have HD := Lib.hid D0
  obtain ⟨K, hK⟩ : ∃ K, K = 2 * k := ⟨_, rfl⟩
  rw [← hK] at HST HLI
  clear hs hz D0 hg hnb hw hav hnm hK hE hEl
  go_enter_defers Tryd.func23, Tryd.ntmps23
  go_wp2_with fail
  rw [← hW]
  clear hW
  refine hm.mono ?_
  rintro e w1 ⟨rfl, hb1⟩
  have hst := Lib.hid (HST.out w1 hb1)
  have HX1 := Lib.hid ((hb1.block (w.heap.size + 1) (by omega)).trans XP.out)
  have HY1 := Lib.hid ((hb1.block (w.heap.size + 1 + 1) (by omega)).trans XQ.out)
  have HZ1 := Lib.hid ((hb1.block w.heap.size (by omega)).trans XB.out)
  have HB1 := Lib.hid hb1
  have s1 := hb1.size
  obtain ⟨⟨b0, b1, b2⟩, -⟩ := three_cells HZ1.out
  clear hm HST hb1 XP XQ XB
  go_wp2_with fail
  refine hst.out.mono ?_
  rintro e w2 ⟨rfl, HO, hb2⟩
  have hli := Lib.hid (HLI.out _ _ w2 (HB1.out.trans (hb2.mono s1)) HO.out)
  have HX2 := Lib.hid ((hb2.block (w.heap.size + 1) (by omega)).trans HX1.out)
  have HY2 := Lib.hid ((hb2.block (w.heap.size + 1 + 1) (by omega)).trans HY1.out)
  have HB2 := Lib.hid (HB1.out.trans (hb2.mono s1))
  have s2 := hb2.size
  clear hst HLI hb2 HX1 HY1 HZ1 HB1 b0 b1 b2 HO
  go_wp2_with fail
  refine hli.out.mono ?_
  rintro e w3 ⟨rfl, hb3⟩
  have HX3 := Lib.hid ((hb3.block (w.heap.size + 1) (by omega)).trans HX2.out)
  have HY3 := Lib.hid ((hb3.block (w.heap.size + 1 + 1) (by omega)).trans HY2.out)
  have HB3 := Lib.hid ((HD.out.trans (HB2.out.mono HD.out.size)).trans (hb3.mono (by omega)))
  obtain ⟨c1, f1⟩ := one_cell HX3.out
  obtain ⟨-, -, HX4, HY4⟩ := pair_set HX3.out HY3.out (.pointer none) (.int .i64 5)
  have HB4 : Hid (Below w.heap.size w ((w3.setCell ⟨w.heap.size + 1, 0, none⟩ (.pointer none)).setCell ⟨w.heap.size + 1 + 1, 0, none⟩ (.int .i64 5))) := (HB3.out.setCell (p := ⟨w.heap.size + 1, 0, none⟩) (by simp) _).setCell (p := ⟨w.heap.size + 1 + 1, 0, none⟩) (by simp; omega) _
  obtain ⟨d1, -⟩ := one_cell HX4
  obtain ⟨d2, -⟩ := one_cell HY4
  obtain ⟨e2, f2⟩ := one_cell ((Below.heap_setCell w3 ⟨w.heap.size + 1, 0, none⟩ (.pointer none) (w.heap.size + 1 + 1) (by simp)).trans HY3.out)
  clear hli hb3 HX2 HY2 HB2
  refine leaves_cons (f := 35) (args := #[.pointer (some ⟨w.heap.size + 1, 0, none⟩), .pointer (some ⟨w.heap.size + 1 + 1, 0, none⟩)]) (by simp) (by simp [go_sem]) ?_
  refine (catch_panicking ⟨w.heap.size + 1, 0, none⟩ ⟨w.heap.size + 1 + 1, 0, none⟩ a [] _ _ _ c1 f1 e2 f2).mono ?_
  rintro e u' w'' ⟨rfl, rfl, rfl⟩
  simp [Leaves, settle, results, Tryd.results23, go_sem, d1, d2]
  exact HB4.out

/-- How far a node lies from the end of the memory. -/
def chM (N : Nat) : Value → Nat
  | .pointer (some a) => N - a.block
  | _ => 0
theorem Ch.step {w : World} {B m : Nat} {fs zs : List Int} {i d : Nat} {v : Value} (h : Ch w B m fs zs i (d + 1) v) : ∃ g q, v = .pointer (some ⟨g, 0, none⟩) ∧ g < w.heap.size ∧
    w.heap[g]? = some (.cells #[.int .i64 (sp zs i), .int .i64 (stA m fs (sp zs i) 0), .int .i64 (stA m fs (sp zs i) 1), .int .i64 (stA m fs (sp zs i) 2), .pointer q] 54 (0, 0)) ∧ Ch w 0 m fs zs (i + 1) d (.pointer q) ∧ chM w.heap.size (.pointer q) < w.heap.size - g := by
  obtain ⟨g, v', rfl, -, hc, hr⟩ := h
  obtain ⟨q, rfl⟩ := hr.ptr
  have hl := (Array.getElem?_eq_some_iff.1 hc).1
  refine ⟨g, q, rfl, hl, hc, hr.kept (Nat.zero_le _) (fun _ _ _ => rfl), ?_⟩
  cases q with
  | none => simp [chM]; omega
  | some a =>
    cases d with
    | zero => cases hr
    | succ d =>
      obtain ⟨g', q', e, hg, -, -⟩ := hr
      injection e with e
      injection e with e
      subst e
      simp [chM]; omega

/-- The error of the door in its variable. -/
def ErrW (w : World) : Prop := ∃ a : Addr, w.cell? ⟨0, 0, none⟩ = some (.iface 74 (.pointer (some a)))
theorem ErrW.lt {w : World} (h : ErrW w) : 0 < w.heap.size := by
  obtain ⟨a, h⟩ := h
  exact World.block_lt_of_cell? w _ h
theorem ErrW.belowAll {w w' : World} (h : ErrW w) (hb : Below w.heap.size w w') : ErrW w' := by
  have hl := h.lt
  obtain ⟨a, h⟩ := h
  exact ⟨a, (hb.cell (p := ⟨0, 0, none⟩) hl).trans h⟩

theorem walkOf_any (n m : Int) (v : Value) (k : Nat) (fs zs : List Int) (p : Option Addr) (c : Nat) (w : World) (hs : Sa w v k fs) (hk : k ≤ 9223372036854775807) (hz : Sl w (.slice p zs.length c) zs) (hc : zs.length ≤ c) (hl : zs.length ≤ 9223372036854775807) (hE : ErrW w) :
    Calls Tryd.prog 23 #[.agg #[.int .i64 n, .int .i64 m, v], .slice p zs.length c] w fun e w' => (∃ q, e = .returned (.tuple #[q, .int .i64 (wkC n m k fs zs)]) ∧ (wkC n m k fs zs = 0 → Ch w' w.heap.size m.toNat fs zs 0 zs.length q)) ∧ Below w.heap.size w w' := by
  by_cases h0 : stepsC n m k fs zs = 0
  · cases hg : isB n m k fs with
    | false => rw [stepsC_none hg] at h0; exact absurd h0 (by decide)
    | true =>
      by_cases h14 : zs.length ≤ 14
      · cases hnb : nbTo k zs zs.length with
        | false => rw [stepsC_no hg hnb] at h0; exact absurd h0 (by decide)
        | true =>
          obtain ⟨N, M, rfl, rfl, _, h2, _, h4, _, h6, hav⟩ := isB_nats hg
          have hf := hs.form
          obtain ⟨sa, cap, rfl⟩ : ∃ sa cap, v = .slice sa k cap := ⟨_, _, hf⟩
          cases hw : isW M fs zs with
          | true =>
            rw [show wkC N M k fs zs = 0 by unfold wkC; simp [hg, h14, hnb, hw]]
            exact (walk_yes N M k cap sa fs zs p c w hs hav ⟨h2, h4, h6⟩ hz hc hg h14 hnb hw).mono fun e w' ⟨⟨q, he, hq⟩, hb⟩ => ⟨⟨q, he, fun _ => hq⟩, hb⟩
          | false =>
            rw [show wkC N M k fs zs = 5 by unfold wkC; simp [hg, h14, hnb, hw]]
            obtain ⟨a, ha⟩ := hE
            exact (walk_no a N M k cap sa fs zs p c w hs hav ⟨h2, h4, h6⟩ hz hc hg h14 hnb hw ha).mono fun e w' ⟨he, hb⟩ => ⟨⟨_, he, fun h => absurd h (by decide)⟩, hb⟩
      · rw [stepsC_long hg h14] at h0; exact absurd h0 (by decide)
  · have he : wkC n m k fs zs = stepsC n m k fs zs := by
      unfold stepsC at h0 ⊢
      unfold wkC
      split
      · next h1 =>
        rw [if_pos h1] at h0
        split
        · next h2 => rw [if_pos h2] at h0; exact absurd rfl h0
        · rfl
      · rfl
    rw [he]
    exact (walk_ref n m v k fs zs p c _ w hs hk hz hl rfl h0).mono fun e w' ⟨he, hb⟩ => ⟨⟨_, he, fun h => absurd h h0⟩, hb⟩
end Go.Proofs.YthonkphjahomeaaDoor
