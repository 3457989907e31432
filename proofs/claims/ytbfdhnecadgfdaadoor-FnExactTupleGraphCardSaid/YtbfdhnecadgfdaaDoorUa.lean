/-
  impl.AbsolutePoints.
-/
import Derived.Test.YtbfdhnecadgfdaaDoorTy
import Derived.Deep.DeepCutAuto
namespace Go.Proofs.YtbfdhnecadgfdaaDoor
set_option maxRecDepth 100000
open Go.RowKit Go.Maps Go.WideMaps Go.WideElems

/-- The places of the points that are on their own line. -/
def absL (q : Nat) : List Int := selL (fun v => onB q (elS (ptsL q) v) (elS (ptsL q) v)) (ptsL q).length
def isP (x : Int) : Bool := decide (x = 2 ∨ x = 3 ∨ x = 5 ∨ x = 7)
def ApL (x : Int) : List Int := if isP x then absL x.toNat else []
def ApC (x : Int) : Int := if isP x then 0 else 2
theorem pts_len57 (q : Nat) (h : q = 2 ∨ q = 3 ∨ q = 5 ∨ q = 7) : 0 < (ptsL q).length ∧ (ptsL q).length ≤ 57 := by
  rw [pts_len q h]; rcases h with rfl | rfl | rfl | rfl <;> omega
theorem ApL_length (x : Int) : (ApL x).length ≤ 57 := by
  unfold ApL
  cases h : isP x with
  | true =>
    rw [if_pos rfl]
    have h2 : x = 2 ∨ x = 3 ∨ x = 5 ∨ x = 7 := by simpa [isP] using h
    exact Nat.le_trans (selL_length _ _) (pts_len57 x.toNat (by omega)).2
  | false => simp

set_option maxHeartbeats 3200000 in
set_option maxRecDepth 100000 in
theorem implAp_yes (q : Nat) (w : World) (h : q = 2 ∨ q = 3 ∨ q = 5 ∨ q = 7) (hT : Tab w) :
    Calls Tryd.prog 13 #[.int .i64 q] w fun e w' => LRes w.heap.size (absL q) 0 e w' ∧ Below w.heap.size w w' := by
  have hq : 2 ≤ q ∧ q ≤ 7 := by omega
  have hp := points_any q w (by omega) hT
  clear hT
  rw [runP_pts q h] at hp
  obtain ⟨hl0, hl57⟩ := pts_len57 q h
  have htri := fun i => pts_at q i hq.2
  obtain ⟨i0, hi, hz0, hz1, hz2⟩ := info_parts mk_info
  have HI := Lib.hid hi; have HI0 := Lib.hid hz0; have HI1 := Lib.hid hz1; have HI2 := Lib.hid hz2
  clear hi hz0 hz1 hz2 h
  unfold absL
  obtain ⟨P, hP⟩ : ∃ P, P = ptsL q := ⟨_, rfl⟩
  rw [← hP] at hp hl0 hl57 htri ⊢
  have HTRI := Lib.hid htri; have HP := Lib.hid hp
  clear hP hp htri
  go_enter Tryd.func13, Tryd.ntmps13
  go_wp2_with (go_at_call 45; refine HP.out.mono ?_; rintro e w1 ⟨⟨pv, rfl, hO⟩, hb1⟩; obtain ⟨g, cap, rfl, hg0, hg1, hcells⟩ := hO.form hl0; have HCE := Lib.hid hcells; have HB1 := Lib.hid hb1; clear hO hb1 hcells)
  have s1 := HB1.out.size
  clear HP
  go_loopw [6, 19] (fun l c wr => ∃ i : Nat, i ≤ P.length ∧ c = .int .i64 i ∧ Hid (Own wr w1.heap.size l (selL (fun v => onB q (elS P v) (elS P v)) i)) ∧ Below w1.heap.size w1 wr) (fun _ c _ => P.length - (intOf c).toNat)
  case atStart => exact ⟨0, Nat.zero_le _, rfl, Own.nil _ _, Below.refl _ _⟩
  case round =>
    obtain ⟨i, hi, rfl, HL, hE⟩ := hrel
    obtain ⟨la, ll, lc, hleq⟩ := row_slice HL.out
    subst hleq
    by_cases hlt : (i : Int) < P.length
    · have hil : i < P.length := by omega
      have ht := HTRI.out i hil
      obtain ⟨y0, y1, y2⟩ := HCE.out i hil
      have z0 : wr.cell? ⟨g, i * 3, none⟩ = some (.int .i64 (el (elS P i) 0)) := (hE.cell (p := ⟨g, i * 3, none⟩) hg1).trans y0
      have z1 : wr.cell? ⟨g, i * 3 + 1, none⟩ = some (.int .i64 (el (elS P i) 1)) := (hE.cell (p := ⟨g, i * 3 + 1, none⟩) hg1).trans y1
      have z2 : wr.cell? ⟨g, i * 3 + 2, none⟩ = some (.int .i64 (el (elS P i) 2)) := (hE.cell (p := ⟨g, i * 3 + 2, none⟩) hg1).trans y2
      clear y0 y1 y2
      have hi0 : (0 : Int) ≤ i := by omega
      have hsl := selL_length (fun v => onB q (elS P v) (elS P v)) i
      obtain ⟨t0, e0⟩ : ∃ x, x = el (elS P i) 0 := ⟨_, rfl⟩
      obtain ⟨t1, e1⟩ : ∃ x, x = el (elS P i) 1 := ⟨_, rfl⟩
      obtain ⟨t2, e2⟩ : ∃ x, x = el (elS P i) 2 := ⟨_, rfl⟩
      have r0 := ht.2 0; have r1 := ht.2 1; have r2 := ht.2 2
      have hon : onB q (elS P i) (elS P i) = ((t0 * t0 + t1 * t1 + t2 * t2) % (q : Int) == 0) := by unfold onB; rw [e0, e1, e2]
      rw [← e0] at z0 r0; rw [← e1] at z1 r1; rw [← e2] at z2 r2
      obtain ⟨w2, hw2⟩ : ∃ w2, w2 = wr.alloc (.cells #[.int .i64 t0, .int .i64 t1, .int .i64 t2] 53) := ⟨_, rfl⟩
      have HX2 : Hid (w2.heap[wr.heap.size]? = some (.cells #[.int .i64 t0, .int .i64 t1, .int .i64 t2] 53 (0, 0))) := by rw [hw2]; exact World.alloc_heap_new wr _
      have hb2' : Below wr.heap.size wr w2 := by rw [hw2]; exact (Below.refl _ _).alloc (Nat.le_refl _) _
      have HL2 := Lib.hid (HL.out.below hb2')
      have hE2 : Below w1.heap.size w1 w2 := hE.trans (hb2'.mono hE.size)
      have HW2 := Lib.hid hw2
      have hsel : ∀ b, onB q (elS P i) (elS P i) = b → (if b then selL (fun v => onB q (elS P v) (elS P v)) (i + 1) = selL (fun v => onB q (elS P v) (elS P v)) i ++ [(i : Int)] else selL (fun v => onB q (elS P v) (elS P v)) (i + 1) = selL (fun v => onB q (elS P v) (elS P v)) i) := fun b hb => by
        cases b
        · exact selL_no _ _ hb
        · exact selL_yes _ _ hb
      obtain ⟨S, hS⟩ : ∃ S, S = selL (fun v => onB q (elS P v) (elS P v)) i := ⟨_, rfl⟩
      rw [← hS] at hsl HL2 hsel
      clear hb2' hw2 HL hE hS ht e0 e1 e2
      cases hr : onB q (elS P i) (elS P i) with
      | true =>
        have hN := hsel _ hr
        rw [if_pos rfl] at hN
        have HN := Lib.hid hN
        rw [hon] at hr
        have HON := Lib.hid (isOn_any q t0 t1 t2 t0 t1 t2 w2 true (by omega) r0 r1 r2 r0 r1 r2 hr)
        clear hr hon hsel hN
        obtain ⟨⟨x0, x1, x2⟩, -⟩ := three_at HX2.out
        go_upto_region 8 with fail
        rw [← HW2.out]
        go_wp2_with (first
          | (go_at_call 46; refine HON.out.mono ?_; rintro e w3 ⟨rfl, hb3⟩; have HL3 := Lib.hid (HL2.out.below (hb3.alloc hb3.size (.cells #[.int .i64 i] 2))); have HE3 := Lib.hid (hE2.trans (hb3.mono hE2.size)); have s3 := HE3.out.size; clear hb3)
          | (at_builtin; refine wpList_append_own _ rfl (.tmp 28) (.tmp 30) 22 rfl w1.heap.size 2 i0 (.int .i64 0) 1 8 Tryd.underlying22 HI.out HI0.out HI1.out HI2.out rfl (by decide) _ _ _ rfl HL3.out ⟨w3.heap.size, 0, none⟩ 1 1 [.int .i64 i] rfl rfl (cell_one_new _ _ _) (ints_oneCell .i64 [(i : Int)]) (by unfold maxLen; omega) (by omega) (by simp; omega) ?_; intro u4 w4 hown4 hgr4 _; obtain ⟨qa, ql, qc, rfl⟩ := row_slice hown4; have HO4 := Lib.hid hown4; have HG4 := Lib.hid hgr4; clear hown4 hgr4))
        have HL4 : Hid (Own w4 w1.heap.size (.slice qa ql qc) (selL (fun v => onB q (elS P v) (elS P v)) (i + 1))) := by
          show World.ownsRow _ _ _ _ _ _ _
          rw [HN.out, List.length_append, List.map_append]
          exact HO4.out
        have hE4 : Below w1.heap.size w1 w4 := (HE3.out.alloc HE3.out.size _).grown HG4.out (by have := HE3.out.size; simp; omega) (fun k e => HL3.out.ge k e)
        clear HO4 HG4 HL3 HL2 HE3 hE2 HW2 HX2 HON x0 x1 x2 z0 z1 z2
        go_wp2_with fail
        go_roundw
        case rel => exact ⟨i + 1, by omega, by go_num, HL4, hE4⟩
        case measure => simp [intOf]; omega
      | false =>
        have hN := hsel _ hr
        rw [if_neg (by simp)] at hN
        have HN := Lib.hid hN
        rw [hon] at hr
        have HON := Lib.hid (isOn_any q t0 t1 t2 t0 t1 t2 w2 false (by omega) r0 r1 r2 r0 r1 r2 hr)
        clear hr hon hsel hN
        obtain ⟨⟨x0, x1, x2⟩, -⟩ := three_at HX2.out
        go_upto_region 8 with fail
        rw [← HW2.out]
        go_wp2_with (go_at_call 46; refine HON.out.mono ?_; rintro e w3 ⟨rfl, hb3⟩; have HL3 := Lib.hid (HL2.out.below hb3); have HE3 := Lib.hid (hE2.trans (hb3.mono hE2.size)); clear hb3)
        have HL4 : Hid (Own w3 w1.heap.size (.slice la ll lc) (selL (fun v => onB q (elS P v) (elS P v)) (i + 1))) := by
          show Own _ _ _ _
          rw [HN.out]
          exact HL3.out
        go_roundw
        case rel => exact ⟨i + 1, by omega, by go_num, HL4, HE3.out⟩
        case measure => simp [intOf]; omega
    · obtain rfl : i = P.length := by omega
      go_wp2_with fail
      go_ret2
      exact ⟨⟨_, rfl, HL.out.base s1⟩, HB1.out.trans (hE.mono s1)⟩

theorem implAp_no (x : Int) (w : World) (h : ¬ (x = 2 ∨ x = 3 ∨ x = 5 ∨ x = 7)) :
    Calls Tryd.prog 13 #[.int .i64 x] w fun e w' => LRes w.heap.size [] 2 e w' ∧ Below w.heap.size w w' := by
  have HP := Lib.hid (points_no x w h)
  clear h
  go_enter Tryd.func13, Tryd.ntmps13
  go_wp2_with (go_at_call 45; refine HP.out.mono ?_; rintro e w' ⟨rfl, rfl⟩)
  go_ret2
  exact ⟨⟨_, rfl, Own.nil _ _⟩, Below.refl _ _⟩

theorem implAp_any (x : Int) (w : World) (hT : Tab w) :
    Calls Tryd.prog 13 #[.int .i64 x] w fun e w' => LRes w.heap.size (ApL x) (ApC x) e w' ∧ Below w.heap.size w w' := by
  cases h : isP x with
  | true =>
    rw [show ApL x = absL x.toNat by simp [ApL, h], show ApC x = 0 by simp [ApC, h]]
    have h2 : x = 2 ∨ x = 3 ∨ x = 5 ∨ x = 7 := by simpa [isP] using h
    have e : ((x.toNat : Nat) : Int) = x := by omega
    have := implAp_yes x.toNat w (by omega) hT
    rw [e] at this
    exact this
  | false =>
    rw [show ApL x = [] by simp [ApL, h], show ApC x = 2 by simp [ApC, h]]
    exact implAp_no x w (by simpa [isP] using h)
end Go.Proofs.YtbfdhnecadgfdaaDoor
