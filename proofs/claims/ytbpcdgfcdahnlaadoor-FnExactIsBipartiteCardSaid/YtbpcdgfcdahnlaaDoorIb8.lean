/-
  IsBipartite: the program's parts against two kinds; program and model, whatever comes in. (A tied seat of graphs.)
-/
import Derived.Test.YtbpcdgfcdahnlaaDoorIb7
import Derived.Test.YtbpcdgfcdahnlaaDoorPx
import Derived.RangeFuncWrites
import Derived.Laws.ResultCell
namespace Go.Proofs.YtbpcdgfcdahnlaaDoor
set_option maxRecDepth 100000
set_option maxRecDepth 100000
open Go.RowKit Go.Shelf

attribute [local go_sem] Oper.semAt_some

theorem kept_rowB {W W' : World} {row : Option Nat} {B k : Nat} {o : Obj} (hg : W.grownBy W' row) (hr : ∀ r, row = some r → B ≤ r ∧ ∃ o : Obj, W.heap[r]? = some o ∧ o.isCells = false) (hk : k < B) (h : W.heap[k]? = some o) : W'.heap[k]? = some o :=
  (hg.block k (Array.getElem?_eq_some_iff.1 h).1 (fun e => by have := (hr k e.symm).1; omega)).trans h
/-- A block of one cell. -/
def BxB (W : World) (k : Nat) (t : TypeId) (v : Value) : Prop := W.heap[k]? = some (.cells #[v] t (0, 0))
theorem BxB.cell {W : World} {k : Nat} {t : TypeId} {v : Value} (h : BxB W k t v) : W.cell? ⟨k, 0, none⟩ = some v := by rw [cell_of_row W k 0 _ _ _ h]; rfl
theorem BxB.frozen {W : World} {k : Nat} {t : TypeId} {v : Value} (h : BxB W k t v) : W.frozen? ⟨k, 0, none⟩ = false := frozen_of_row W k 0 _ _ h
theorem BxB.lt {W : World} {k : Nat} {t : TypeId} {v : Value} (h : BxB W k t v) : k < W.heap.size := (Array.getElem?_eq_some_iff.1 h).1
theorem BxB.set {W : World} {k : Nat} {t : TypeId} {v : Value} (h : BxB W k t v) (x : Value) : BxB (W.setCell ⟨k, 0, none⟩ x) k t x := by
  unfold BxB at *
  rw [heap_setCell_same W k 0 _ _ _ h]; rfl
theorem partsInB_any (x v : Value) (w : World) : Calls Tryd.prog 58 #[.agg #[x, v]] w fun e w' => e = .returned (.func (.func 89) #[] #[.pointer (some ⟨w.heap.size, 0, none⟩)]) ∧ w' = w.alloc (.cells #[x, v] 28) := by
  go_enter Tryd.func58, Tryd.ntmps58
  go_wp2
  go_ret
  exact ⟨rfl, rfl⟩

theorem partsB_stops (n : Nat) (hn : 1 ≤ n) (a n₀ b off cap : Nat) (zs : List Int) (F : Nat → Nat × Nat) (p : Nat) (hg : isG zs.length zs = true) (hF : ∀ v, v < zs.length → RD zs v (F v)) (hp : PN zs.length F p) (w : World)
    (ha : w.heap[a]? = some (.cells #[.int .i64 zs.length, .slice (some ⟨b, off, none⟩) zs.length cap] 28 (0, 0))) (hb : b < n₀) (hc : Cells w b off zs) (hT : Tab w) (hT0 : 0 < n₀) (hn0 : n₀ ≤ w.heap.size) :
    SeqStopsK Fence.wide n Tryd.prog 89 #[.pointer (some ⟨a, 0, none⟩)] (fun x : Fin p => #[.int .i64 ((F (lo (lfN zs.length F x.1))).1 : Nat), .int .i64 ((F (lo (lfN zs.length F x.1))).2 : Nat)]) (KpG n₀ a) (fun ys => ys = List.finRange p) (fun pre => pre <+: List.finRange p) p w := by
  intro l J Jx W hW hJ _ hY h0
  exact parts1_in n hn l W.heap.size a n₀ b off cap zs F p hg hF hp J Jx hJ hY W ((hW.block a (Array.getElem?_eq_some_iff.1 ha).1).trans ha) hb (hc.below hW (by omega)) (hT.belowAll hW) hT0 (Nat.le_trans hn0 hW.size) h0

section
variable {zs : List Int} (h62 : zs.length ≤ 62) (hz : ∀ i, i < zs.length → (el zs i).toNat < 2 ^ zs.length)
include h62 hz in
/-- The two rows of a search name the two kinds. -/
theorem kinds_rows {c : Nat → Bool} (hc : ColB zs c) {v : Nat} (hv : v < zs.length) : ∀ k, (∀ w, (rIt zs v k).1.testBit w = true → w < zs.length ∧ c w = c v) ∧ (∀ w, (rIt zs v k).2.testBit w = true → w < zs.length ∧ c w ≠ c v)
  | 0 => by
    refine ⟨fun w hw => ?_, fun w hw => ?_⟩
    · have : v = w := by
        have h : (2 ^ v).testBit w = true := hw
        rw [Nat.testBit_two_pow] at h
        simpa using h
      rw [← this]; exact ⟨hv, rfl⟩
    · have h : (0 : Nat).testBit w = true := hw
      simp at h
  | k + 1 => by
    obtain ⟨h1, h2⟩ := kinds_rows hc hv k
    have hi := rIt_inv hv h62 hz k
    have ha1 := fun w => ar_iff (zs := zs) (a := (rIt zs v k).1) (w := w) hi.elt h62
    have hin : ∀ x w, x < zs.length → bt (el zs x) w = true → w < zs.length := fun x w hx hb => bit_lt (hz x hx) hb
    have h3 : ∀ w, (rOdd zs (rIt zs v k).1 (rIt zs v k).2).testBit w = true → w < zs.length ∧ c w ≠ c v := fun w hw => by
      unfold rOdd at hw
      rw [Nat.testBit_or, Bool.or_eq_true] at hw
      rcases hw with hw | hw
      · exact h2 w hw
      · obtain ⟨x, hx, hb, hR⟩ := (ha1 w).1 hw
        have hwl := hin x w hx hR
        refine ⟨hwl, fun e => hc x w hx hwl hR ?_⟩
        rw [(h1 x hb).2, e]
    have hol : rOdd zs (rIt zs v k).1 (rIt zs v k).2 < 2 ^ zs.length := (hi.next hv h62 hz).olt
    refine ⟨fun w hw => ?_, h3⟩
    have hw2 : (rEven zs (rIt zs v k).1 (rIt zs v k).2).testBit w = true := hw
    unfold rEven at hw2
    rw [Nat.testBit_or, Bool.or_eq_true] at hw2
    rcases hw2 with hw2 | hw2
    · exact h1 w hw2
    · obtain ⟨x, hx, hb, hR⟩ := (ar_iff (zs := zs) hol h62).1 hw2
      have hwl := hin x w hx hR
      have h4 := (h3 x hb).2
      have h5 := hc x w hx hwl hR
      refine ⟨hwl, ?_⟩
      cases hcx : c x <;> cases hcw : c w <;> cases hcv : c v <;> simp_all
include h62 hz in
theorem kinds_meet {F : Nat → Nat × Nat} (hF : ∀ v, v < zs.length → RD zs v (F v)) {v : Nat} (hv : v < zs.length) (h : (F v).1 &&& (F v).2 ≠ 0) : ¬ bipP zs := by
  rintro ⟨c, hc⟩
  obtain ⟨k, hk, _⟩ := hF v hv
  obtain ⟨h1, h2⟩ := kinds_rows h62 hz hc hv k
  rw [← hk] at h1 h2
  obtain ⟨w, hw⟩ := Nat.exists_testBit_of_ne_zero h
  rw [Nat.testBit_and, Bool.and_eq_true] at hw
  exact (h2 w hw.2).2 (h1 w hw.1).2
theorem prN_mem {u : Nat} (hl : leadB zs u = true) : ∀ n, u < n → u ∈ prN zs n
  | 0, h => by omega
  | n + 1, h => by
    by_cases e : u = n
    · rw [← e, prN_yes hl]; simp
    · have := prN_mem hl n (by omega)
      cases hn : leadB zs n with
      | true => rw [prN_yes hn]; exact List.mem_append.2 (.inl this)
      | false => rw [prN_no hn]; exact this
include h62 hz in
theorem lead_all {F : Nat → Nat × Nat} {p : Nat} (hF : ∀ v, v < zs.length → RD zs v (F v)) (hp : PN zs.length F p) : (List.range p).map (fun k => lo (lfN zs.length F k)) = prN zs zs.length := by
  have key : ∀ k, k ≤ p → ∃ v, v ≤ zs.length ∧ PI zs F k v ∧ (List.range k).map (fun k => lo (lfN zs.length F k)) = prN zs v := by
    intro k
    induction k with
    | zero => exact fun _ => ⟨0, Nat.zero_le _, PI.start, rfl⟩
    | succ k ih =>
      intro hk
      obtain ⟨v, hv, hP, e⟩ := ih (by omega)
      obtain ⟨h1, h2, h3, h4⟩ := hP.next h62 hz hF (hp.2 k (by omega))
      exact ⟨_, h1, h4, by rw [List.range_succ, List.map_append, e, h3]; rfl⟩
  obtain ⟨v, hv, hP, e⟩ := key p (Nat.le_refl _)
  rw [e, hP.last hp.1 hv]
include h62 hz in
open Classical in
theorem kinds_apart {F : Nat → Nat × Nat} {p : Nat} (sym : ∀ a b, a < zs.length → b < zs.length → bt (el zs b) a = bt (el zs a) b) (hF : ∀ v, v < zs.length → RD zs v (F v)) (hp : PN zs.length F p) (h : ∀ k, k < p → (F (lo (lfN zs.length F k))).1 &&& (F (lo (lfN zs.length F k))).2 = 0) : bipP zs := by
  have hd : ∀ u, u < zs.length → leadB zs u = true → (F u).1 &&& (F u).2 = 0 := fun u hu hl => by
    have hm := prN_mem hl zs.length hu
    rw [← lead_all h62 hz hF hp] at hm
    obtain ⟨k, hk, e⟩ := List.mem_map.1 hm
    rw [← e]; exact h k (List.mem_range.1 hk)
  refine ⟨fun w => decide (∃ u, ldB zs u w ∧ (F u).1.testBit w = true), fun a b ha hb hR => ?_⟩
  obtain ⟨u, hu, hl⟩ := ldB_ex ha
  have hun : u < zs.length := by omega
  have hlb : ldB zs u b := ⟨rch_step hun hl.1 hR hb, fun y hy hr => hl.2 y hy (rch_step (by omega) hr (by rw [sym a b ha hb]; exact hR) ha)⟩
  have hlu : leadB zs u = true := leadB_iff.2 fun y hy hr => hl.2 y hy (rch_trans (by omega) hr hl.1)
  have ca : (∃ y, ldB zs y a ∧ (F y).1.testBit a = true) ↔ (F u).1.testBit a = true := ⟨fun ⟨y, h1, h2⟩ => by rw [ldB_uniq hl h1]; exact h2, fun h => ⟨u, hl, h⟩⟩
  have cb : (∃ y, ldB zs y b ∧ (F y).1.testBit b = true) ↔ (F u).1.testBit b = true := ⟨fun ⟨y, h1, h2⟩ => by rw [ldB_uniq hlb h1]; exact h2, fun h => ⟨u, hlb, h⟩⟩
  show decide _ ≠ decide _
  have hdis := hd u hun hlu
  have hinv := (hF u hun).inv hun h62 hz
  obtain ⟨hfe, hfo⟩ := (hF u hun).fix
  have no : ∀ w, (F u).1.testBit w = true → (F u).2.testBit w = true → False := fun w h1 h2 => by
    have h3 := congrArg (fun x : Nat => x.testBit w) hdis
    simp only [Nat.testBit_and, h1, h2] at h3
    simp at h3
  by_cases he : (F u).1.testBit a = true
  · have hob : (F u).2.testBit b = true := by
      rw [← hfo]; unfold rOdd
      rw [Nat.testBit_or, (ar_iff hinv.elt h62).2 ⟨a, ha, he, hR⟩, Bool.or_true]
    rw [decide_eq_true (ca.2 he), decide_eq_false (fun h1 => no b (cb.1 h1) hob)]
    decide
  · have hor := (hF u hun).or hun h62 hz a ha
    rw [decide_eq_true hl.1, Nat.testBit_or, Bool.or_eq_true] at hor
    have hoa : (F u).2.testBit a = true := by
      rcases hor with h1 | h1
      · exact absurd h1 he
      · exact h1
    have heb : (F u).1.testBit b = true := by
      rw [← hfe]; unfold rEven
      rw [hfo, Nat.testBit_or, (ar_iff hinv.olt h62).2 ⟨a, ha, hoa, hR⟩, Bool.or_true]
    rw [decide_eq_true (cb.2 heb), decide_eq_false (fun h1 => he (ca.1 h1))]
    decide
end

def PaC0 (n : Int) (zs : List Int) : Int := if isG n zs then 0 else 1
noncomputable def BpD (n : Int) (zs : List Int) : Bool := isG n zs && bipB zs

set_option maxHeartbeats 800000 in
theorem specBp_any (n : Int) (v : Value) (zs : List Int) (w : World) (h : Sl w v zs) (hl : zs.length ≤ 9223372036854775807) :
    Calls Tryd.prog 33 #[.agg #[.int .i64 n, v]] w fun e w' => e = .returned (.tuple #[.bool (BpD n zs), .int .i64 (PaC0 n zs)]) ∧ Below w.heap.size w w' := by
  have D0 : Below w.heap.size w (w.alloc (.cells #[.int .i64 n, v] 28)) := (Below.refl _ _).alloc (Nat.le_refl _) _
  have his := l01Is_any n v zs _ (h.below D0) hl
  unfold BpD PaC0
  cases hg : isG n zs
  · rw [hg] at his
    clear h hg
    go_enter Tryd.func33, Tryd.ntmps33
    go_wp2_with (go_at_call 52; refine his.mono ?_; rintro e w1 ⟨rfl, hb1⟩)
    go_ret2
    exact ⟨rfl, D0.trans (hb1.mono (by simp))⟩
  · rw [hg] at his
    obtain ⟨h1, _, h3, _⟩ := isG_parts hg
    obtain ⟨b, off, cap, rfl, hb, hc⟩ := sl_some h (by omega)
    obtain rfl : (zs.length : Int) = n := h3
    have HG0 := Lib.hid (GBox.new (n := zs.length) (cap := cap) hb hc)
    have HG := Lib.hid hg
    obtain ⟨r, hr⟩ : ∃ r, r = bipB zs := ⟨_, rfl⟩
    rw [Bool.true_and, ← hr]
    have HR := Lib.hid hr
    clear hc hg hr h
    go_enter Tryd.func33, Tryd.ntmps33
    go_wp2_with (go_at_call 52; refine his.mono ?_; rintro e w1 ⟨rfl, hb1⟩; have G1 := Lib.hid (HG0.out.below (hb1.mono (by simp))); have b0 := G1.out.b0; have b1 := G1.out.b1)
    have D1 : Below w.heap.size w w1 := D0.trans (hb1.mono (by simp))
    have hks := kinds_some b off cap zs w1 G1.out.lb G1.out.cells HG.out
    rw [← HR.out] at hks
    refine hks.mono ?_
    rintro e w2 ⟨⟨u, rfl⟩, hb2⟩
    have D2 := D1.trans (hb2.mono D1.size)
    clear hks hb1 hb2 his
    go_wp2
    go_ret2
    exact ⟨rfl, D2⟩
end Go.Proofs.YtbpcdgfcdahnlaaDoor
