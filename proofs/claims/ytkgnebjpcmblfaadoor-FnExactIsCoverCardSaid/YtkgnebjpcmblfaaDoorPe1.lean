/-
  spec.l01Own, l01Copy: a graph in new memory.
-/
import Derived.Test.YtkgnebjpcmblfaaDoorNbS
import Derived.Test.YtkgnebjpcmblfaaDoorGr
import Derived.BigRegion
import Derived.Deep.RegionHeld3
namespace Go.Proofs.YtkgnebjpcmblfaaDoor
open Go.RowKit

theorem slice_of {w : World} {B : Nat} {u : Value} {L : List Int} (h : Own w B u L) : ∃ a l c, u = .slice a l c := by
  rcases h.form with ⟨rfl, _⟩ | ⟨g, cap, rfl, _⟩
  · exact ⟨_, _, _, rfl⟩
  · exact ⟨_, _, _, rfl⟩

set_option maxHeartbeats 800000 in
theorem l01Own_some (b off cap : Nat) (zs : List Int) (w : World) (hb : b < w.heap.size) (hc : Cells w b off zs) (hl : zs.length ≤ 62) :
    Calls Tryd.prog 94 #[.slice (some ⟨b, off, none⟩) zs.length cap] w fun e w' => ∃ u, e = .returned u ∧ Own w' w.heap.size u zs ∧ Below w.heap.size w w' := by
  obtain ⟨i0, hi, hz0, hz1, hz2⟩ := info_parts mk_info
  have HI := Lib.hid hi; have HI0 := Lib.hid hz0; have HI1 := Lib.hid hz1; have HI2 := Lib.hid hz2
  clear hi hz0 hz1 hz2
  have D0 : Below w.heap.size w (w.alloc (.cells #[] 2)) := (Below.refl _ _).alloc (Nat.le_refl _) _
  have hnil : (w.alloc (.cells #[] 2)).ownsRow w.heap.size 2 1 (.slice (some ⟨w.heap.size, 0, none⟩) 0 0) 0 [] := World.ownsRow_made w #[] 0 (base := w.heap.size) (e := 2) (size := 1) (Nat.le_refl _) (by decide) rfl
  have hcc := Lib.hid (hc.below D0 hb)
  have hnews : ∀ j u, (zs.map (Value.int .i64))[j]? = some u → (w.alloc (.cells #[] 2)).cell? ((⟨b, off, none⟩ : Addr).add j) = some u := by
    intro j u hj
    have hjl : j < zs.length := by
      have := (List.getElem?_eq_some_iff.1 hj).1
      simpa using this
    rw [map_at zs j hjl] at hj
    cases hj
    have hz := hcc.out j hjl
    simp only [Addr.add]
    split
    · rename_i h0; subst h0; simpa using hz
    · exact hz
  have HN := Lib.hid hnews
  have HW := Lib.hid hnil
  clear hnews hnil hc
  go_enter Tryd.func94, Tryd.ntmps94
  go_wp2_with (at_builtin; refine wpList_append_own _ rfl _ _ 22 rfl w.heap.size 2 i0 (.int .i64 0) 1 8 Tryd.underlying22 HI.out HI0.out HI1.out HI2.out rfl (by decide) _ _ _ rfl HW.out ⟨b, off, none⟩ zs.length cap (zs.map (Value.int .i64)) rfl (by simp) HN.out (by simp [Value.oneCell']) (by unfold maxLen; omega) (by omega) (by simp) ?_; intro u' w3 hown3 hgr3 _)
  have E3 := D0.grown hgr3 (by simp) (fun k e => (World.ownsRow.lt HW.out k e).1)
  have HO : Hid (Own w3 w.heap.size u' zs) := by
    show World.ownsRow _ _ _ _ _ _ _
    rw [Nat.zero_add, List.nil_append] at hown3
    exact hown3
  clear hown3 hgr3
  go_wp2
  go_ret
  exact ⟨_, rfl, HO.out, E3⟩

set_option maxHeartbeats 800000 in
theorem l01Copy_some (n : Int) (b off cap : Nat) (zs : List Int) (w : World) (hb : b < w.heap.size) (hc : Cells w b off zs) (hl : zs.length ≤ 62) :
    Calls Tryd.prog 87 #[.agg #[.int .i64 n, .slice (some ⟨b, off, none⟩) zs.length cap]] w fun e w' => ∃ u, e = .returned (.agg #[.int .i64 n, u]) ∧ Own w' w.heap.size u zs ∧ Below w.heap.size w w' := by
  have D0 : Below w.heap.size w ((w.alloc (.cells #[.int .i64 n, .slice (some ⟨b, off, none⟩) zs.length cap] 28)).alloc (.cells #[.int .i64 0, .slice none 0 0] 28)) := ((Below.refl _ _).alloc (Nat.le_refl _) _).alloc (by simp) _
  obtain ⟨W, hW⟩ : ∃ W, W = ((w.alloc (.cells #[.int .i64 n, .slice (some ⟨b, off, none⟩) zs.length cap] 28)).alloc (.cells #[.int .i64 0, .slice none 0 0] 28)) := ⟨_, rfl⟩
  have hsz : W.heap.size = w.heap.size + 2 := by rw [hW]; simp
  have HH1 : Hid (W.heap[w.heap.size + 1]? = some (.cells #[.int .i64 0, .slice none 0 0] 28 (0, 0))) := by rw [hW]; exact heap_new_at (w.alloc (.cells #[.int .i64 n, .slice (some ⟨b, off, none⟩) zs.length cap] 28)) (.cells #[.int .i64 0, .slice none 0 0] 28) (w.heap.size + 1) (by simp)
  have HH0 : Hid (W.heap[w.heap.size]? = some (.cells #[.int .i64 n, .slice (some ⟨b, off, none⟩) zs.length cap] 28 (0, 0))) := by rw [hW]; exact heap_old_at (heap_new_at w (.cells #[.int .i64 n, .slice (some ⟨b, off, none⟩) zs.length cap] 28) w.heap.size rfl) _
  rw [← hW] at D0
  have hcw := hc.below D0 hb
  have hcon := fun W' (h : Below W.heap.size W W') => l01Own_some b off cap zs W' (by have := h.size; omega) (hcw.below h (by omega)) hl
  have HC := Lib.hid hcon
  have HSZ := Lib.hid hsz
  clear hcon hc hcw hsz
  go_enter Tryd.func87, Tryd.ntmps87
  go_wp2_with fail
  rw [← hW]
  clear hW
  obtain ⟨a0, a1, -, -⟩ := two_cells HH0.out
  obtain ⟨r0, r1, g0, g1⟩ := two_cells HH1.out
  go_region_held3 (fun w' => w'.cell? ⟨w.heap.size, 0, none⟩ = some (.int .i64 n) ∧ w'.cell? ⟨w.heap.size, 1, none⟩ = some (.slice (some ⟨b, off, none⟩) zs.length cap))
    (go_keep)
    ((go_at_call 94; refine (HC.out _ ((Below.refl _ _).drew)).mono ?_; rintro e w1 ⟨u, rfl, hO, hb1⟩; obtain ⟨ua, ul, uc, rfl⟩ := slice_of hO; have hb1' : Below W.heap.size W w1 := ((Below.refl _ _).drew).trans hb1; obtain ⟨a0, a1, -, -⟩ := two_cells ((hb1'.block w.heap.size (by rw [HSZ.out]; omega)).trans HH0.out); have RB := Lib.hid ((hb1'.block (w.heap.size + 1) (by rw [HSZ.out]; omega)).trans HH1.out); obtain ⟨r0, r1, g0, g1⟩ := two_cells RB.out; have HO := Lib.hid hO; have HB1 := Lib.hid hb1'; clear hO hb1 hb1'))
  go_wp2
  have hfin := two_set (a := .int .i64 n) (b := .slice ua ul uc) RB.out
  have hgr : w1.grownBy ((w1.setCell ⟨w.heap.size + 1, 0, none⟩ (.int .i64 n)).setCell ⟨w.heap.size + 1, 1, none⟩ (.slice ua ul uc)) (some (w.heap.size + 1)) := grown_set (grown_set ⟨rfl, rfl, rfl, Nat.le_refl _, fun _ _ _ => rfl⟩ _ 0 _) _ 1 _
  refine bodyPost_ret (v := .agg #[.int .i64 n, .slice ua ul uc]) (results_cell_row (p := 2) (ty := 28) rfl _ _ (w.heap.size + 1) 28 _ (0, 0) _ rfl hfin Tryd.underlying28 rfl (by exact info27)) rfl ⟨_, rfl, ?_, ?_⟩
  · have hO := HO.out
    have hs := HSZ.out
    have hne : (Value.slice ua ul uc).ownBlock = none ∨ (Value.slice ua ul uc).ownBlock ≠ some (w.heap.size + 1) := by
      cases hu : (Value.slice ua ul uc).ownBlock with
      | none => exact .inl rfl
      | some k => refine .inr fun e => ?_; cases e; have h1 := hO.ge _ hu; have h2 : W.drew.heap.size = W.heap.size := rfl; omega
    exact (hO.kept hgr hne).base (by have h2 : W.drew.heap.size = W.heap.size := rfl; omega)
  · exact ((D0.trans (HB1.out.mono (by have := HSZ.out; omega))).setCell (p := ⟨w.heap.size + 1, 0, none⟩) (by simp) _).setCell (p := ⟨w.heap.size + 1, 1, none⟩) (by simp) _
end Go.Proofs.YtkgnebjpcmblfaaDoor
