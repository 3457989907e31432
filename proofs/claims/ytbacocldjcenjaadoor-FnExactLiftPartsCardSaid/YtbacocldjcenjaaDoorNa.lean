/-
  impl.neighboursAround: the rows of a row's members taken together.
-/
import Derived.Test.YtbacocldjcenjaaDoorNbI
import Derived.Test.YtbacocldjcenjaaDoorTurn
import Derived.RangeFuncBox
namespace Go.Proofs.YtbacocldjcenjaaDoor
set_option maxRecDepth 100000
open Go.RowKit Go.Shelf

attribute [local go_sem] Oper.semAt_some

/-- The rows of some vertices taken together. -/
def arN (zs : List Int) (l : List Nat) : Nat := l.foldl (fun a j => a ||| (el zs j).toNat) 0
theorem arN_snoc (zs : List Int) (l : List Nat) (y : Nat) : arN zs (l ++ [y]) = arN zs l ||| (el zs y).toNat := by unfold arN; rw [List.foldl_append]; rfl
theorem arN_lt (zs : List Int) (m : Nat) (hz : ∀ i, i < zs.length → (el zs i).toNat < 2 ^ m) : ∀ l : List Nat, arN zs l < 2 ^ m := by
  have h0 : ∀ i, (el zs i).toNat < 2 ^ m := fun i => by
    by_cases hi : i < zs.length
    · exact hz i hi
    · have : el zs i = 0 := by unfold el; rw [List.getD_eq_getElem?_getD, List.getElem?_eq_none (by omega)]; rfl
      rw [this]; exact Nat.two_pow_pos m
  have key : ∀ (l : List Nat) (a : Nat), a < 2 ^ m → l.foldl (fun a j => a ||| (el zs j).toNat) a < 2 ^ m := by
    intro l
    induction l with
    | nil => intro a ha; exact ha
    | cons y l ih => intro a ha; exact ih _ (Nat.or_lt_two_pow ha (h0 y))
  intro l
  exact key l 0 (Nat.two_pow_pos m)
theorem arN_bit (zs : List Int) (w : Nat) : ∀ l : List Nat, (arN zs l).testBit w = l.any fun x => bt (el zs x) w := by
  have key : ∀ (l : List Nat) (a : Nat), (l.foldl (fun a j => a ||| (el zs j).toNat) a).testBit w = (a.testBit w || l.any fun x => bt (el zs x) w) := by
    intro l
    induction l with
    | nil => intro a; simp
    | cons y l ih => intro a; rw [List.foldl_cons, ih, Nat.testBit_or, List.any_cons, Bool.or_assoc]; rfl
  intro l
  unfold arN
  rw [key]
  simp

set_option maxRecDepth 100000 in
set_option maxHeartbeats 2000000 in
theorem around_in (n : Int) (b off cap : Nat) (zs : List Int) (x : Nat) (w : World) (hb : b < w.heap.size) (hc : Cells w b off zs) (hT : Tab w) (hl : zs.length ≤ 62) (hx : x < 2 ^ zs.length) (hz : ∀ i, i < zs.length → 0 ≤ el zs i ∧ (el zs i).toNat < 2 ^ 62) :
    CallsIn Fence.wide 5 Tryd.prog 38 #[.agg #[.int .i64 n, .slice (some ⟨b, off, none⟩) zs.length cap], .int .i64 x] w fun e w' => e = .returned (.int .i64 (arN zs (mem x))) ∧ Below w.heap.size w w' := by
  have hp62 : 2 ^ zs.length ≤ 2 ^ 62 := Nat.pow_le_pow_right (by decide) hl
  have HC := Lib.hid hc; have HZ := Lib.hid hz
  clear hc hz
  refine callsIn_of_wp_marks Tryd.func38 rfl trivial ?_ rfl
  simp only [Tryd.ntmps38, List.size_toArray, List.length_cons, List.length_nil, Nat.reduceAdd, Nat.reduceSub, Array.replicate_succ, Array.replicate_zero, List.push_toArray, List.append_toArray, List.nil_append, List.cons_append]
  gi_wp2_with (refine ⟨trivial, ?_⟩; gi_at_call 40; refine (callsIn_wide.2 (membersOf_any _ _)).mono ?_; rintro e w' ⟨rfl, rfl⟩)
  obtain ⟨W1, hW1⟩ : ∃ W1, W1 = ((w.alloc (.cells #[.int .i64 n, .slice (some ⟨b, off, none⟩) zs.length cap] 38)).alloc (.cells #[.int .i64 0] 2)).alloc (.cells #[.int .i64 x] 2) := ⟨_, rfl⟩
  refine at_world (w' := W1) ?_ hW1.symm
  have hs1 : W1.heap.size = w.heap.size + 3 := by rw [hW1]; simp
  have hg1 : W1.heap[w.heap.size]? = some (.cells #[.int .i64 n, .slice (some ⟨b, off, none⟩) zs.length cap] 38 (0, 0)) := by rw [hW1]; exact heap_old_at (heap_old_at (heap_new_at w (.cells #[.int .i64 n, .slice (some ⟨b, off, none⟩) zs.length cap] 38) w.heap.size rfl) _) _
  have hb1 : Boxed W1 (w.heap.size + 1) 2 (.int .i64 (arN zs [] : Nat)) := by rw [hW1]; exact heap_old_at (heap_new_at (w.alloc (.cells #[.int .i64 n, .slice (some ⟨b, off, none⟩) zs.length cap] 38)) (.cells #[.int .i64 0] 2) (w.heap.size + 1) (by simp)) _
  have hc1 : W1.cell? ⟨w.heap.size + 1 + 1, 0, none⟩ = some (.int .i64 x) := by
    rw [hW1]
    have := World.cell?_alloc_new (w := (w.alloc (.cells #[.int .i64 n, .slice (some ⟨b, off, none⟩) zs.length cap] 38)).alloc (.cells #[.int .i64 0] 2)) #[.int .i64 x] 2 0
    rw [World.size_alloc, World.size_alloc] at this
    rw [this]; rfl
  have hB1 : Below w.heap.size w W1 := by rw [hW1]; exact (((Below.refl _ w).alloc (by omega) _).alloc (by simp) _).alloc (by simp; omega) _
  have hT1 : Tab W1 := hT.belowAll hB1
  have h0 := hT.lt
  refine wpIn_rangeFunc_ownF rfl (by omega) (gf := 41) (lb := #[.pointer (some ⟨w.heap.size + 1 + 1, 0, none⟩)]) rfl trivial (enters_of Tryd.func41 (by kernel_rfl) rfl)
    (members_stops 4 (by omega) (w.heap.size + 1 + 1) w.heap.size x (by omega) W1 (by omega) hc1 hT1 h0) belowK_t (belowK_b (by omega)) (Below.refl _ _) (fun _ => rfl)
    (fun pre W' => Boxed W' (w.heap.size + 1) 2 (.int .i64 (arN zs pre.unattach : Nat)) ∧ W'.heap[w.heap.size]? = some (.cells #[.int .i64 n, .slice (some ⟨b, off, none⟩) zs.length cap] 38 (0, 0)) ∧ Below w.heap.size w W')
    (fun _ _ _ => False)
    ?hI (fun _ _ _ _ _ hs _ _ => hs) ?h0 (fun y => { tmps := #[.agg #[.int .i64 n, .slice (some ⟨b, off, none⟩) zs.length cap], .int .i64 x, .pointer (some ⟨w.heap.size, 0, none⟩), undef, .int .i64 0, .pointer (some ⟨w.heap.size + 1, 0, none⟩), .int .i64 y.1, .int .i64 x, .func (.func 41) #[] #[.pointer (some ⟨w.heap.size + 1 + 1, 0, none⟩)], .int .i64 y.1, undef, undef, undef, undef, undef, undef, undef, undef], defers := [] }) ?assign ?body ?done ?stop
  case hI =>
    intro pre A B row hs hg hr
    exact ⟨kept_block hg hr (by omega) hs.1, kept_block hg hr (by omega) hs.2.1, hs.2.2.grown hg hs.2.2.size (fun k e => by have := (hr k e).1; omega)⟩
  case h0 => exact ⟨hb1, hg1, hB1⟩
  case assign =>
    intro l y W K hK
    gi_wp2
    exact hK
  case body =>
    rintro l pre y W' ⟨hv, hg, hB⟩ hlen
    have hyz : y.1 < zs.length := by
      have hbx := (mem_iff.1 y.2).2
      refine Nat.lt_of_not_le fun hle => ?_
      have h2 := Nat.testBit_lt_two_pow (Nat.lt_of_lt_of_le hx (Nat.pow_le_pow_right (show 0 < 2 by decide) hle))
      rw [h2] at hbx; cases hbx
    have cv := hv.cell
    have cf := hv.frozen
    obtain ⟨a0, a1, -, -⟩ := two_cells hg
    obtain ⟨z, hzz⟩ : ∃ z : Nat, el zs y.1 = (z : Int) := ⟨(el zs y.1).toNat, by have := (HZ.out y.1 hyz).1; omega⟩
    have hz62 : z < 2 ^ 62 := by have := (HZ.out y.1 hyz).2; rw [hzz, Int.toNat_natCast] at this; exact this
    have cz : W'.cell? ⟨b, off + y.1, none⟩ = some (.int .i64 (z : Int)) := by
      rw [← hzz]; exact (hB.cell (p := ⟨b, off + y.1, none⟩) hb).trans (HC.out y.1 hyz)
    have hy0 : (0 : Int) ≤ y.1 := by omega
    have hy1 : (y.1 : Int) < zs.length := by omega
    have HOR := Lib.hid (or_i64 (arN zs pre.unattach) z (Nat.lt_trans (arN_lt zs 62 (fun i hi => (HZ.out i hi).2) _) (by decide)) (Nat.lt_trans hz62 (by decide)))
    have hsn := arN_snoc zs pre.unattach y.1
    rw [hzz, Int.toNat_natCast] at hsn
    have HSN := Lib.hid hsn
    clear hsn hzz
    have hm : Tryd.prog.follows Departure.mixedOrders = true := mixed
    gi_wp2
    gi_region_with_o (fail)
    all_goals
      refine ⟨(KeepsOthers.setCell _ _ _).trans (KeepsOthers.drew _), ?_, ?_, ?_, ?_⟩
      · exact ((Below.refl _ _).setCell (p := ⟨w.heap.size + 1, 0, none⟩) (by simp) _).drew
      · rw [HOR.out, List.unattach_append, show List.unattach [y] = [y.1] from rfl, HSN.out]
        exact hv.set _
      · exact (Below.heap_setCell _ _ _ _ (by simp)).trans hg
      · exact (hB.setCell (p := ⟨w.heap.size + 1, 0, none⟩) (by simp) _).drew
  case done =>
    rintro D ys W2 hDD rfl ⟨hv, hg, hB⟩ hK
    have cv := hv.cell
    gi_wp2
    refine leaves_marks (H := w.heap.size + 1) [D] _ ⟨by simp, fun E hE => ?_⟩ fun W' hs hb' => ?_
    · obtain rfl : E = D := by simpa using hE
      exact ⟨by omega, hK⟩
    · refine ⟨_, results_tmp rfl _ _ _, ?_, hB.trans (hb'.mono (by omega))⟩
      rw [show (memL x).unattach = mem x from memL_val x]
      rfl
  case stop =>
    rintro D c pre W _ _ h _
    exact h.elim

theorem around_any (n : Int) (b off cap : Nat) (zs : List Int) (x : Nat) (w : World) (hb : b < w.heap.size) (hc : Cells w b off zs) (hT : Tab w) (hl : zs.length ≤ 62) (hx : x < 2 ^ zs.length) (hz : ∀ i, i < zs.length → 0 ≤ el zs i ∧ (el zs i).toNat < 2 ^ 62) :
    Calls Tryd.prog 38 #[.agg #[.int .i64 n, .slice (some ⟨b, off, none⟩) zs.length cap], .int .i64 x] w fun e w' => e = .returned (.int .i64 (arN zs (mem x))) ∧ Below w.heap.size w w' :=
  callsIn_wide.1 (around_in n b off cap zs x w hb hc hT hl hx hz)
end Go.Proofs.YtbacocldjcenjaaDoor
