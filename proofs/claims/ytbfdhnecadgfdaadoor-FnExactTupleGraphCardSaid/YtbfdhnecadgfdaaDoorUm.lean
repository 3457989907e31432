/-
  impl.PlaneGraph.
-/
import Derived.Test.YtbfdhnecadgfdaaDoorUl
import Derived.Deep.DeepCutAuto
namespace Go.Proofs.YtbfdhnecadgfdaaDoor
set_option maxRecDepth 100000
open Go.RowKit Go.Maps Go.WideMaps Go.WideElems

def plN (q : Nat) : Int := if q = 7 then 0 else ((2 * (ptsL q).length : Nat) : Int)
def plL (q : Nat) : List Int := if q = 7 then [] else rowsF (2 * (ptsL q).length) (adjS (whereS (kF (ptsL q).length (onF q (ptsL q))) (2 * (ptsL q).length)))
def plC (q : Nat) : Int := if q = 7 then 3 else 0
def PlN (x : Int) : Int := if isP x then plN x.toNat else 0
def PlL (x : Int) : List Int := if isP x then plL x.toNat else []
def PlC (x : Int) : Int := if isP x then plC x.toNat else 2
theorem PlL_length (x : Int) : (PlL x).length ≤ 114 := by
  unfold PlL
  cases h : isP x with
  | true =>
    rw [if_pos rfl]
    have h2 : x = 2 ∨ x = 3 ∨ x = 5 ∨ x = 7 := by simpa [isP] using h
    unfold plL
    have := pts_len57 x.toNat (by omega)
    split
    · simp
    · rw [rowsF_length]; omega
  | false => simp
theorem eg_plane : ∀ args W, (callFunc 59 args).run Tryd.prog W = .ok (.enter 59 args) W := fun _ _ => by kernel_rfl

set_option maxHeartbeats 1600000 in
theorem implPl_no (x : Int) (w : World) (h : ¬ (x = 2 ∨ x = 3 ∨ x = 5 ∨ x = 7)) :
    Calls Tryd.prog 30 #[.int .i64 x] w fun e w' => GRes w.heap.size 0 [] 2 e w' ∧ Below w.heap.size w w' := by
  obtain ⟨W, hW⟩ : ∃ W, W = (w.alloc (.cells #[.int .i64 x] 2)).alloc (.cells #[.int .i64 0, .slice none 0 0] 34) := ⟨_, rfl⟩
  have D0 : Below w.heap.size w W := by rw [hW]; exact ((Below.refl _ _).alloc (Nat.le_refl _) _).alloc (by simp) _
  have RB0 : Hid (W.heap[w.heap.size + 1]? = some (.cells #[.int .i64 0, .slice none 0 0] 34 (0, 0))) := by rw [hW]; exact heap_new_at _ _ _ (by simp)
  have HQ : W.heap[w.heap.size]? = some (.cells #[.int .i64 x] 2 (0, 0)) := by rw [hW]; exact heap_old_at (World.alloc_heap_new w _) _
  have hsz : w.heap.size + 2 ≤ W.heap.size := by rw [hW]; simp
  have HP := Lib.hid (points_no x W h)
  clear h
  go_enter Tryd.func30, Tryd.ntmps30
  go_upto_region 1 with fail
  rw [← hW]
  clear hW
  have cq := cell_of_one HQ
  obtain ⟨r0, r1, g0, g1⟩ := two_cells RB0.out
  have hne : ¬ (w.heap.size + 1 = W.heap.size) := by omega
  have D2 : Below w.heap.size w (W.alloc (.cells #[.slice none 0 0] 49)) := D0.alloc (by omega) _
  have RB : Hid ((W.alloc (.cells #[.slice none 0 0] 49)).heap[w.heap.size + 1]? = some (.cells #[.int .i64 0, .slice none 0 0] 34 (0, 0))) := heap_old_at RB0.out _
  obtain ⟨r2, r3, g2, g3⟩ := two_cells RB.out
  go_wp2_with (go_at_call 45; refine HP.out.mono ?_; rintro e w' ⟨rfl, rfl⟩)
  have hfin := two_set (a := .int .i64 0) (b := .slice none 0 0) RB.out
  refine bodyPost_ret (v := .tuple #[.agg #[.int .i64 0, .slice none 0 0], .int .i64 2]) (results_cell2 (p := 2) (u := 3) (ty := 34) rfl _ _ (w.heap.size + 1) 34 _ (0, 0) _ rfl hfin Tryd.underlying34 rfl (by exact info27)) rfl ⟨⟨_, rfl, Own.nil _ _⟩, ?_⟩
  exact (D2.setCell (p := ⟨w.heap.size + 1, 0, none⟩) (by simp) _).setCell (p := ⟨w.heap.size + 1, 1, none⟩) (by simp) _

set_option maxHeartbeats 1600000 in
set_option maxRecDepth 100000 in
theorem implPl_yes (q : Nat) (w : World) (h : q = 2 ∨ q = 3 ∨ q = 5 ∨ q = 7) (hT : Tab w) :
    Calls Tryd.prog 30 #[.int .i64 q] w fun e w' => GRes w.heap.size (plN q) (plL q) (plC q) e w' ∧ Below w.heap.size w w' := by
  have hq : 2 ≤ q ∧ q ≤ 7 := by omega
  obtain ⟨hl0, hl57⟩ := pts_len57 q h
  have htri := fun i => pts_at q i hq.2
  have hp := fun W hTW => points_any q W (by omega) hTW
  rw [runP_pts q h] at hp
  have hpl := pts_len q h
  unfold plN plL plC
  obtain ⟨P, hP⟩ : ∃ P, P = ptsL q := ⟨_, rfl⟩
  rw [← hP] at hp hl0 hl57 htri hpl ⊢
  obtain ⟨N, hN⟩ : ∃ N, N = (if q = 7 then 0 else ((2 * P.length : Nat) : Int)) := ⟨_, rfl⟩
  obtain ⟨L, hL⟩ : ∃ L, L = (if q = 7 then [] else rowsF (2 * P.length) (adjS (whereS (kF P.length (onF q P)) (2 * P.length)))) := ⟨_, rfl⟩
  obtain ⟨c, hc⟩ : ∃ c : Int, c = (if q = 7 then 3 else 0) := ⟨_, rfl⟩
  rw [← hN, ← hL, ← hc]
  obtain ⟨W, hW⟩ : ∃ W, W = (w.alloc (.cells #[.int .i64 q] 2)).alloc (.cells #[.int .i64 0, .slice none 0 0] 34) := ⟨_, rfl⟩
  have D0 : Below w.heap.size w W := by rw [hW]; exact ((Below.refl _ _).alloc (Nat.le_refl _) _).alloc (by simp) _
  have RB0 : Hid (W.heap[w.heap.size + 1]? = some (.cells #[.int .i64 0, .slice none 0 0] 34 (0, 0))) := by rw [hW]; exact heap_new_at _ _ _ (by simp)
  have HQ : W.heap[w.heap.size]? = some (.cells #[.int .i64 q] 2 (0, 0)) := by rw [hW]; exact heap_old_at (World.alloc_heap_new w _) _
  have hsz : w.heap.size + 2 ≤ W.heap.size := by rw [hW]; simp
  have HP := Lib.hid (hp W (hT.belowAll D0))
  clear hT
  have HTRI := Lib.hid htri
  have HQH := Lib.hid HQ
  have HQ7 : Hid (q = 7 ∨ P.length ≤ 31) := by
    show _ ∨ _
    rcases h with rfl | rfl | rfl | rfl <;> omega
  have HPL := Lib.hid hpl; have HN := Lib.hid hN; have HL := Lib.hid hL; have HC := Lib.hid hc
  clear hp htri h hP hpl hN hL hc
  have hmf := hmkf
  go_enter Tryd.func30, Tryd.ntmps30
  go_upto_region 1 with fail
  rw [← hW]
  clear hW
  have cq := cell_of_one HQ
  go_upto_region 2 with (go_at_call 45; refine HP.out.mono ?_; rintro e w1 ⟨⟨pv, rfl, hO⟩, hb1⟩; obtain ⟨g, cap, rfl, hg0, hg1, hcells⟩ := hO.form hl0; have HCE : Hid (PC w1 g P) := hcells; have HB1 := Lib.hid hb1; clear hO hb1 hcells)
  have s1 := HB1.out.size
  obtain ⟨w2, hw2⟩ : ∃ w2, w2 = w1.alloc (.cells #[.slice (some ⟨g, 0, none⟩) P.length cap] 49) := ⟨_, rfl⟩
  have hb2 : Below w1.heap.size w1 w2 := by rw [hw2]; exact (Below.refl _ _).alloc (Nat.le_refl _) _
  have X2 : w2.heap[w1.heap.size]? = some (.cells #[.slice (some ⟨g, 0, none⟩) P.length cap] 49 (0, 0)) := by rw [hw2]; exact World.alloc_heap_new w1 _
  have s2 : w1.heap.size + 1 = w2.heap.size := by rw [hw2]; simp
  have HB2 : Below W.heap.size W w2 := HB1.out.trans (hb2.mono s1)
  have RB2 := Lib.hid ((HB2.block (w.heap.size + 1) (by omega)).trans RB0.out)
  have HQ2 := (HB2.block w.heap.size (by omega)).trans HQH.out
  have HC2 := Lib.hid (HCE.out.below hb2 hg1)
  have hon : ∀ (v x : Nat) (W3 : World), v < P.length → x < P.length → Below w2.heap.size w2 W3 → Calls Tryd.prog 59 #[.int .i64 v, .int .i64 x, .pointer (some ⟨w1.heap.size, 0, none⟩), .pointer (some ⟨w.heap.size, 0, none⟩)] W3 fun e w' => e = .returned (.bool (onF q P v x)) ∧ Below W3.heap.size W3 w' := fun v x W3 hv hx hb =>
    planeOn_any q g cap w1.heap.size w.heap.size v x P W3 hq HTRI.out hv hx (cell_of_one ((hb.block w1.heap.size (by omega)).trans X2)) (cell_of_one ((hb.block w.heap.size (by omega)).trans HQ2)) (HC2.out.below hb (by omega))
  have hwh : Calls Tryd.prog 54 #[.int .i64 P.length, .func (.func 59) #[] #[.pointer (some ⟨w1.heap.size, 0, none⟩), .pointer (some ⟨w.heap.size, 0, none⟩)]] w2 fun e w' => GRes w2.heap.size N L c e w' ∧ Below w2.heap.size w2 w' := by
    by_cases h7 : q = 7
    · rw [HN.out, HL.out, HC.out, if_pos h7, if_pos h7, if_pos h7]
      have hp57 := HPL.out
      subst h7
      exact kinds_far _ _ _ P.length w2 (by omega) (by omega)
    · rw [HN.out, HL.out, HC.out, if_neg h7, if_neg h7, if_neg h7]
      exact kinds_any 59 _ _ (onF q P) P.length (2 * P.length) w2 (by rcases HQ7.out with h | h <;> omega) rfl eg_plane hon
  have HWH := Lib.hid hwh
  rw [← hw2]
  have cp := cell_of_one X2
  have E2 : Below w.heap.size w w2 := D0.trans (HB2.mono (by omega))
  clear hwh hon hw2 X2 HQ2 HQ HQH HB2 hb2 HC2 HCE HP D0 RB0 HB1 cq HTRI
  go_wp2_with (go_at_call 54; refine HWH.out.mono ?_; rintro e w3 ⟨⟨u3, rfl, hO3⟩, hb3⟩; obtain ⟨ua, ul, uc, rfl⟩ := row_slice hO3; have HO3 := Lib.hid hO3; have HE3 := Lib.hid (E2.trans (hb3.mono E2.size)); have RB3 := Lib.hid ((hb3.block (w.heap.size + 1) (by omega)).trans RB2.out); clear hO3 hb3; obtain ⟨r0, r1, g0, g1⟩ := two_cells RB3.out)
  have hfin := two_set (a := .int .i64 N) (b := .slice ua ul uc) RB3.out
  refine bodyPost_ret (v := .tuple #[.agg #[.int .i64 N, .slice ua ul uc], .int .i64 c]) (results_cell2 (p := 2) (u := 3) (ty := 34) rfl _ _ (w.heap.size + 1) 34 _ (0, 0) _ rfl hfin Tryd.underlying34 rfl (by exact info27)) rfl ⟨⟨_, rfl, ?_⟩, ?_⟩
  · have hne : (Value.slice ua ul uc).ownBlock ≠ some (w.heap.size + 1) := fun e => by have := HO3.out.ge _ e; omega
    exact (HO3.out.base (by omega)).kept (grown_set (grown_set ⟨rfl, rfl, rfl, Nat.le_refl _, fun _ _ _ => rfl⟩ (w.heap.size + 1) 0 _) (w.heap.size + 1) 1 _) (.inr hne)
  · exact (HE3.out.setCell (p := ⟨w.heap.size + 1, 0, none⟩) (by simp) _).setCell (p := ⟨w.heap.size + 1, 1, none⟩) (by simp) _

theorem implPl_any (x : Int) (w : World) (hT : Tab w) :
    Calls Tryd.prog 30 #[.int .i64 x] w fun e w' => GRes w.heap.size (PlN x) (PlL x) (PlC x) e w' ∧ Below w.heap.size w w' := by
  cases h : isP x with
  | true =>
    rw [show PlN x = plN x.toNat by simp [PlN, h], show PlL x = plL x.toNat by simp [PlL, h], show PlC x = plC x.toNat by simp [PlC, h]]
    have h2 : x = 2 ∨ x = 3 ∨ x = 5 ∨ x = 7 := by simpa [isP] using h
    have e : ((x.toNat : Nat) : Int) = x := by omega
    have := implPl_yes x.toNat w (by omega) hT
    rw [e] at this
    exact this
  | false =>
    rw [show PlN x = 0 by simp [PlN, h], show PlL x = [] by simp [PlL, h], show PlC x = 2 by simp [PlC, h]]
    exact implPl_no x w (by simpa [isP] using h)
end Go.Proofs.YtbfdhnecadgfdaaDoor
