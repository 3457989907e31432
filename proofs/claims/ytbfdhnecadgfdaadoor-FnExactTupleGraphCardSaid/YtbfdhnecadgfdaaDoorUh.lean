/-
  impl.PolarityGraph: its body.
-/
import Derived.Test.YtbfdhnecadgfdaaDoorUg
import Derived.Deep.DeepCutAuto
namespace Go.Proofs.YtbfdhnecadgfdaaDoor
set_option maxRecDepth 100000
open Go.RowKit Go.Maps Go.WideMaps Go.WideElems

/-- Which points are on which lines. -/
def onF (q : Nat) (P : List (List Int)) : Nat → Nat → Bool := fun v x => onB q (elS P v) (elS P x)
def polL (q : Nat) : List Int := rowsF (ptsL q).length (adjS (whereS (onF q (ptsL q)) (ptsL q).length))
def PolN (x : Int) : Int := if isP x then ((ptsL x.toNat).length : Int) else 0
def PolL (x : Int) : List Int := if isP x then polL x.toNat else []
theorem PolL_length (x : Int) : (PolL x).length ≤ 57 := by
  unfold PolL
  cases h : isP x with
  | true =>
    rw [if_pos rfl]
    have h2 : x = 2 ∨ x = 3 ∨ x = 5 ∨ x = 7 := by simpa [isP] using h
    unfold polL
    rw [rowsF_length]
    exact (pts_len57 x.toNat (by omega)).2
  | false => simp

theorem hmkf : ∀ (fn : Fn) (first cap : Array Value) (w : World), (Instr.makeFunc fn first cap).run Tryd.prog w = .ok (.func fn first cap) w := fun _ _ _ _ => rfl
theorem eg_pol : ∀ args W, (callFunc 58 args).run Tryd.prog W = .ok (.enter 58 args) W := fun _ _ => by kernel_rfl

set_option maxHeartbeats 1600000 in
theorem implPol_no (x : Int) (w : World) (h : ¬ (x = 2 ∨ x = 3 ∨ x = 5 ∨ x = 7)) :
    Calls Tryd.prog 28 #[.int .i64 x] w fun e w' => GRes w.heap.size 0 [] 2 e w' ∧ Below w.heap.size w w' := by
  obtain ⟨W, hW⟩ : ∃ W, W = (w.alloc (.cells #[.int .i64 x] 2)).alloc (.cells #[.int .i64 0, .slice none 0 0] 34) := ⟨_, rfl⟩
  have D0 : Below w.heap.size w W := by rw [hW]; exact ((Below.refl _ _).alloc (Nat.le_refl _) _).alloc (by simp) _
  have RB0 : Hid (W.heap[w.heap.size + 1]? = some (.cells #[.int .i64 0, .slice none 0 0] 34 (0, 0))) := by rw [hW]; exact heap_new_at _ _ _ (by simp)
  have HQ : W.heap[w.heap.size]? = some (.cells #[.int .i64 x] 2 (0, 0)) := by rw [hW]; exact heap_old_at (World.alloc_heap_new w _) _
  have hsz : w.heap.size + 2 ≤ W.heap.size := by rw [hW]; simp
  have HP := Lib.hid (points_no x W h)
  clear h
  go_enter Tryd.func28, Tryd.ntmps28
  go_upto_region 1 with fail
  rw [← hW]
  clear hW
  have cq := cell_of_one HQ
  obtain ⟨r0, r1, g0, g1⟩ := two_cells RB0.out
  have hne : ¬ (w.heap.size + 1 = W.heap.size) := by omega
  have D2 : Below w.heap.size w (W.alloc (.cells #[.slice none 0 0] 49)) := D0.alloc (by omega) _
  have RB : Hid ((W.alloc (.cells #[.slice none 0 0] 49)).heap[w.heap.size + 1]? = some (.cells #[.int .i64 0, .slice none 0 0] 34 (0, 0))) := heap_old_at RB0.out _
  obtain ⟨r2, r3, g2, g3⟩ := two_cells RB.out
  go_wp2_with (go_at_call 45; refine HP.out.mono ?_; rintro e w' ⟨rfl, rfl⟩)
  have hfin := two_set (a := .int .i64 0) (b := .slice none 0 0) RB.out
  refine bodyPost_ret (v := .tuple #[.agg #[.int .i64 0, .slice none 0 0], .int .i64 2]) (results_cell2 (p := 2) (u := 3) (ty := 34) rfl _ _ (w.heap.size + 1) 34 _ (0, 0) _ rfl hfin Tryd.underlying34 rfl (by exact info27)) rfl ⟨⟨_, rfl, Own.nil _ _⟩, ?_⟩
  exact (D2.setCell (p := ⟨w.heap.size + 1, 0, none⟩) (by simp) _).setCell (p := ⟨w.heap.size + 1, 1, none⟩) (by simp) _

set_option maxHeartbeats 1600000 in
set_option maxRecDepth 100000 in
theorem implPol_yes (q : Nat) (w : World) (h : q = 2 ∨ q = 3 ∨ q = 5 ∨ q = 7) (hT : Tab w) :
    Calls Tryd.prog 28 #[.int .i64 q] w fun e w' => GRes w.heap.size ((ptsL q).length : Int) (polL q) 0 e w' ∧ Below w.heap.size w w' := by
  have hq : 2 ≤ q ∧ q ≤ 7 := by omega
  obtain ⟨hl0, hl57⟩ := pts_len57 q h
  have htri := fun i => pts_at q i hq.2
  have hp := fun W hTW => points_any q W (by omega) hTW
  rw [runP_pts q h] at hp
  unfold polL
  obtain ⟨P, hP⟩ : ∃ P, P = ptsL q := ⟨_, rfl⟩
  rw [← hP] at hp hl0 hl57 htri ⊢
  obtain ⟨W, hW⟩ : ∃ W, W = (w.alloc (.cells #[.int .i64 q] 2)).alloc (.cells #[.int .i64 0, .slice none 0 0] 34) := ⟨_, rfl⟩
  have D0 : Below w.heap.size w W := by rw [hW]; exact ((Below.refl _ _).alloc (Nat.le_refl _) _).alloc (by simp) _
  have RB0 : Hid (W.heap[w.heap.size + 1]? = some (.cells #[.int .i64 0, .slice none 0 0] 34 (0, 0))) := by rw [hW]; exact heap_new_at _ _ _ (by simp)
  have HQ : W.heap[w.heap.size]? = some (.cells #[.int .i64 q] 2 (0, 0)) := by rw [hW]; exact heap_old_at (World.alloc_heap_new w _) _
  have hsz : w.heap.size + 2 ≤ W.heap.size := by rw [hW]; simp
  have HP := Lib.hid (hp W (hT.belowAll D0))
  clear hT
  have HTRI := Lib.hid htri
  have HQH := Lib.hid HQ
  clear hp htri h hP
  have hmf := hmkf
  go_enter Tryd.func28, Tryd.ntmps28
  go_upto_region 1 with fail
  rw [← hW]
  clear hW
  have cq := cell_of_one HQ
  go_upto_region 2 with (go_at_call 45; refine HP.out.mono ?_; rintro e w1 ⟨⟨pv, rfl, hO⟩, hb1⟩; obtain ⟨g, cap, rfl, hg0, hg1, hcells⟩ := hO.form hl0; have HCE : Hid (PC w1 g P) := hcells; have HB1 := Lib.hid hb1; clear hO hb1 hcells)
  have s1 := HB1.out.size
  obtain ⟨w2, hw2⟩ : ∃ w2, w2 = w1.alloc (.cells #[.slice (some ⟨g, 0, none⟩) P.length cap] 49) := ⟨_, rfl⟩
  have hb2 : Below w1.heap.size w1 w2 := by rw [hw2]; exact (Below.refl _ _).alloc (Nat.le_refl _) _
  have X2 : w2.heap[w1.heap.size]? = some (.cells #[.slice (some ⟨g, 0, none⟩) P.length cap] 49 (0, 0)) := by rw [hw2]; exact World.alloc_heap_new w1 _
  have s2 : w1.heap.size + 1 = w2.heap.size := by rw [hw2]; simp
  have HB2 : Below W.heap.size W w2 := HB1.out.trans (hb2.mono s1)
  have RB2 := Lib.hid ((HB2.block (w.heap.size + 1) (by omega)).trans RB0.out)
  have HQ2 := (HB2.block w.heap.size (by omega)).trans HQH.out
  have HC2 := Lib.hid (HCE.out.below hb2 hg1)
  have hwh := where_any 58 (.pointer (some ⟨w1.heap.size, 0, none⟩)) (.pointer (some ⟨w.heap.size, 0, none⟩)) (onF q P) P.length w2 (by omega) eg_pol (fun v x W3 hvx hx hb =>
    polOn_any q g cap w1.heap.size w.heap.size v x P W3 hq HTRI.out (by omega) hx (cell_of_one ((hb.block w1.heap.size (by omega)).trans X2)) (cell_of_one ((hb.block w.heap.size (by omega)).trans HQ2)) (HC2.out.below hb (by omega)))
  have HWH := Lib.hid hwh
  rw [← hw2]
  have cp := cell_of_one X2
  have E2 : Below w.heap.size w w2 := D0.trans (HB2.mono (by omega))
  clear hwh hw2 X2 HQ2 HQ HQH HB2 hb2 HC2 HCE HP D0 RB0 HB1 cq HTRI
  go_wp2_with (go_at_call 57; refine HWH.out.mono ?_; rintro e w3 ⟨⟨g3, rfl, hB3, hg3⟩, hb3⟩; have HB3 := Lib.hid hB3; have HE3 := Lib.hid (E2.trans (hb3.mono E2.size)); have RB3 := Lib.hid ((hb3.block (w.heap.size + 1) (by omega)).trans RB2.out); clear hB3 hb3; obtain ⟨r0, r1, g0, g1⟩ := two_cells RB3.out)
  have hfin := two_set (a := .int .i64 P.length) (b := .slice (some ⟨g3, 0, none⟩) P.length P.length) RB3.out
  refine bodyPost_ret (v := .tuple #[.agg #[.int .i64 P.length, .slice (some ⟨g3, 0, none⟩) P.length P.length], .int .i64 0]) (results_cell2 (p := 2) (u := 3) (ty := 34) rfl _ _ (w.heap.size + 1) 34 _ (0, 0) _ rfl hfin Tryd.underlying34 rfl (by exact info27)) rfl ⟨⟨_, rfl, ?_⟩, ?_⟩
  · have h := Own.of_blk ((HB3.out.other (a := ⟨w.heap.size + 1, 0, none⟩) (by simp; omega) (.int .i64 P.length)).other (a := ⟨w.heap.size + 1, 1, none⟩) (by simp; omega) (.slice (some ⟨g3, 0, none⟩) P.length P.length)) (B := w.heap.size) (by omega) (by rw [rowsF_length]; unfold maxLen; omega)
    rw [rowsF_length] at h
    exact h
  · exact (HE3.out.setCell (p := ⟨w.heap.size + 1, 0, none⟩) (by simp) _).setCell (p := ⟨w.heap.size + 1, 1, none⟩) (by simp) _

theorem implPol_any (x : Int) (w : World) (hT : Tab w) :
    Calls Tryd.prog 28 #[.int .i64 x] w fun e w' => GRes w.heap.size (PolN x) (PolL x) (ApC x) e w' ∧ Below w.heap.size w w' := by
  cases h : isP x with
  | true =>
    rw [show PolN x = ((ptsL x.toNat).length : Int) by simp [PolN, h], show PolL x = polL x.toNat by simp [PolL, h], show ApC x = 0 by simp [ApC, h]]
    have h2 : x = 2 ∨ x = 3 ∨ x = 5 ∨ x = 7 := by simpa [isP] using h
    have e : ((x.toNat : Nat) : Int) = x := by omega
    have := implPol_yes x.toNat w (by omega) hT
    rw [e] at this
    exact this
  | false =>
    rw [show PolN x = 0 by simp [PolN, h], show PolL x = [] by simp [PolL, h], show ApC x = 2 by simp [ApC, h]]
    exact implPol_no x w (by simpa [isP] using h)
end Go.Proofs.YtbfdhnecadgfdaaDoor
