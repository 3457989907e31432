/-
  spec.l04On, spec.AbsolutePoints.
-/
import Derived.Test.YtbfdhnecadgfdaaDoorUb
import Derived.BigQuiet
import Derived.Deep.QuietTactic
import Derived.IntWalk
namespace Go.Proofs.YtbfdhnecadgfdaaDoor
set_option maxRecDepth 100000
open Go.RowKit

/-- A contract that only draws, inside 'go_quiet'. -/
theorem qdrew {P : Program} {f : FuncId} {args : Array Value} {w : World} {n : Nat} {v : Value}
    (h : Calls P f args (w.drewN n) fun e w' => e = .returned v ∧ ∃ m, w' = (w.drewN n).drewN m) : Calls P f args (w.drewN n) fun e w'' => e = .returned v ∧ ∃ m, w'' = w.drewN m :=
  h.mono fun _ _ ⟨he, m, hm⟩ => ⟨he, n + m, by rw [hm, World.drewN_drewN]⟩

set_option maxHeartbeats 1600000 in
theorem specOn_any (q a b c d e f : Int) (g1 c1 g2 c2 : Nat) (w : World) (r : Bool) (hq : 2 ≤ q ∧ q ≤ 7) (ha : 0 ≤ a ∧ a ≤ 6) (hb : 0 ≤ b ∧ b ≤ 6) (hc : 0 ≤ c ∧ c ≤ 6) (hd : 0 ≤ d ∧ d ≤ 6) (he : 0 ≤ e ∧ e ≤ 6) (hf : 0 ≤ f ∧ f ≤ 6)
    (x0 : w.cell? ⟨g1, 0, none⟩ = some (.int .i64 a)) (x1 : w.cell? ⟨g1, 1, none⟩ = some (.int .i64 b)) (x2 : w.cell? ⟨g1, 2, none⟩ = some (.int .i64 c)) (y0 : w.cell? ⟨g2, 0, none⟩ = some (.int .i64 d)) (y1 : w.cell? ⟨g2, 1, none⟩ = some (.int .i64 e)) (y2 : w.cell? ⟨g2, 2, none⟩ = some (.int .i64 f))
    (hr : ((a * d + b * e + c * f) % q == 0) = r) :
    Calls Tryd.prog 44 #[.int .i64 q, .slice (some ⟨g1, 0, none⟩) 3 c1, .slice (some ⟨g2, 0, none⟩) 3 c2] w fun en w' => en = .returned (.bool r) ∧ ∃ m, w' = w.drewN m := by
  obtain ⟨p1, p2⟩ := prod_bd ha.1 ha.2 hd.1 hd.2
  obtain ⟨p3, p4⟩ := prod_bd hb.1 hb.2 he.1 he.2
  obtain ⟨p5, p6⟩ := prod_bd hc.1 hc.2 hf.1 hf.2
  obtain ⟨q1, q2⟩ := hq
  have HR := Lib.hid hr
  clear hr ha hb hc hd he hf
  have z0 : (0 : Int) ≤ a * d + b * e + c * f := by omega
  have V1 : IntKind.i64.wrap (a * d) = a * d := IntWalk.i64_in _ (by omega)
  have V2 : IntKind.i64.wrap (b * e) = b * e := IntWalk.i64_in _ (by clear V1; omega)
  have V3 : IntKind.i64.wrap (c * f) = c * f := IntWalk.i64_in _ (by clear V1 V2; omega)
  have V4 : IntKind.i64.wrap (a * d + b * e) = a * d + b * e := IntWalk.i64_in _ (by clear V1 V2 V3; omega)
  have V5 : IntKind.i64.wrap (a * d + b * e + c * f) = a * d + b * e + c * f := IntWalk.i64_in _ (by clear V1 V2 V3 V4; omega)
  have V6 : Int.tmod (a * d + b * e + c * f) q = (a * d + b * e + c * f) % q := Int.tmod_eq_emod_of_nonneg z0
  go_enter Tryd.func44, Tryd.ntmps44
  go_wp2_with fail
  go_quiet (fail)
  clear V1 V2 V3 V4 V5 V6
  go_wp2
  go_ret
  exact ⟨ret_bool HR.out, _, rfl⟩

set_option maxHeartbeats 3200000 in
set_option maxRecDepth 100000 in
theorem specAp_yes (q : Nat) (w : World) (h : q = 2 ∨ q = 3 ∨ q = 5 ∨ q = 7) :
    Calls Tryd.prog 12 #[.int .i64 q] w fun e w' => LRes w.heap.size (absL q) 0 e w' ∧ Below w.heap.size w w' := by
  have hq : 2 ≤ q ∧ q ≤ 7 := by omega
  have HPR := Lib.hid (fun W => l04Prime_yes (q : Int) W (by omega))
  have hp := specPoints_any q w hq.2
  obtain ⟨hl0, hl57⟩ := pts_len57 q h
  have htri := fun i => pts_at q i hq.2
  obtain ⟨i0, hi, hz0, hz1, hz2⟩ := info_parts mk_info
  have HI := Lib.hid hi; have HI0 := Lib.hid hz0; have HI1 := Lib.hid hz1; have HI2 := Lib.hid hz2
  clear hi hz0 hz1 hz2 h
  unfold absL
  obtain ⟨P, hP⟩ : ∃ P, P = ptsL q := ⟨_, rfl⟩
  rw [← hP] at hp hl0 hl57 htri ⊢
  have HTRI := Lib.hid htri; have HP := Lib.hid hp
  clear hP hp htri
  go_enter Tryd.func12, Tryd.ntmps12
  go_wp2_with (first
    | (go_at_call 42; refine (HPR.out _).mono ?_; rintro e w' ⟨rfl, rfl⟩)
    | (go_at_call 43; refine HP.out.mono ?_; rintro e w1 ⟨⟨tv, rfl, hT⟩, hb1⟩; obtain ⟨g, cap, rfl, hg1, hg2⟩ := hT.form1 hl0; have HT := Lib.hid hT; have HB1 := Lib.hid hb1; clear hT hb1))
  have s1 := HB1.out.size
  have hnil : (w1.alloc (.cells #[] 2)).ownsRow w1.heap.size 2 1 (.slice (some ⟨w1.heap.size, 0, none⟩) 0 0) 0 [] := World.ownsRow_made w1 #[] 0 (base := w1.heap.size) (e := 2) (size := 1) (Nat.le_refl _) (by decide) rfl
  have HN0 : Hid (Own (w1.alloc (.cells #[] 2)) w1.heap.size (.slice (some ⟨w1.heap.size, 0, none⟩) 0 0) (selL (fun v => onB q (elS P v) (elS P v)) 0)) := hnil
  have E1 : Below w1.heap.size w1 (w1.alloc (.cells #[] 2)) := (Below.refl _ _).alloc (Nat.le_refl _) _
  clear HP HPR hnil
  go_loopw [5, 6] (fun l c wr => ∃ i : Nat, i ≤ P.length ∧ c = .int .i64 i ∧ Hid (Own wr w1.heap.size l (selL (fun v => onB q (elS P v) (elS P v)) i)) ∧ Below w1.heap.size w1 wr) (fun _ c _ => P.length - (intOf c).toNat)
  case atStart => exact ⟨0, Nat.zero_le _, rfl, HN0, E1⟩
  case round =>
    obtain ⟨i, hi, rfl, HL, hE⟩ := hrel
    obtain ⟨la, ll, lc, hleq⟩ := row_slice HL.out
    subst hleq
    by_cases hlt : (i : Int) < P.length
    · have hil : i < P.length := by omega
      have ht := HTRI.out i hil
      obtain ⟨b, c, hc0, hb1, hb2, hcells⟩ := HT.out.rowAt hil (by rw [ht.1]; omega)
      rw [ht.1] at hc0 hcells
      have hcell : wr.cell? ⟨g, i, none⟩ = some (.slice (some ⟨b, 0, none⟩) 3 c) := (hE.cell (p := ⟨g, i, none⟩) hg2).trans hc0
      have hi0 : (0 : Int) ≤ i := by omega
      have hsl := selL_length (fun v => onB q (elS P v) (elS P v)) i
      have hon : ∀ r, onB q (elS P i) (elS P i) = r → ∀ m, Calls Tryd.prog 44 #[.int .i64 q, .slice (some ⟨b, 0, none⟩) 3 c, .slice (some ⟨b, 0, none⟩) 3 c] (wr.drewN m) fun en w' => en = .returned (.bool r) ∧ ∃ k, w' = (wr.drewN m).drewN k := fun r hr m => by
        have y0 := (hE.cell (p := ⟨b, 0, none⟩) hb2).trans (hcells 0 (by omega))
        have y1 := (hE.cell (p := ⟨b, 1, none⟩) hb2).trans (hcells 1 (by omega))
        have y2 := (hE.cell (p := ⟨b, 2, none⟩) hb2).trans (hcells 2 (by omega))
        exact specOn_any q _ _ _ _ _ _ b c b c (wr.drewN m) r (by omega) (ht.2 0) (ht.2 1) (ht.2 2) (ht.2 0) (ht.2 1) (ht.2 2) y0 y1 y2 y0 y1 y2 hr
      have hsel : ∀ b, onB q (elS P i) (elS P i) = b → (if b then selL (fun v => onB q (elS P v) (elS P v)) (i + 1) = selL (fun v => onB q (elS P v) (elS P v)) i ++ [(i : Int)] else selL (fun v => onB q (elS P v) (elS P v)) (i + 1) = selL (fun v => onB q (elS P v) (elS P v)) i) := fun b hb => by
        cases b
        · exact selL_no _ _ hb
        · exact selL_yes _ _ hb
      obtain ⟨S, hS⟩ : ∃ S, S = selL (fun v => onB q (elS P v) (elS P v)) i := ⟨_, rfl⟩
      rw [← hS] at hsl HL hsel
      cases hr : onB q (elS P i) (elS P i) with
      | true =>
        have HON := Lib.hid (hon _ hr)
        have HN := hsel _ hr
        rw [if_pos rfl] at HN
        have HN := Lib.hid HN
        clear hr hon hsel hcells hS ht hc0
        go_wp2_with fail
        go_quiet ((go_at_call 44; exact qdrew (HON.out _)))
        generalize hw1 : wr.drewN _ = w2
        have HL2 : Hid (Own (w2.alloc (.cells #[.int .i64 i] 2)) w1.heap.size (.slice la ll lc) S) := by
          rw [← hw1]; exact HL.out.below ((drewN_below (Below.refl _ _) _).alloc (Nat.le_refl _) _)
        have hE2 : Below w1.heap.size w1 w2 := by rw [← hw1]; exact drewN_below hE _
        clear hw1 HL hE hcell HON
        have s2 := hE2.size
        go_wp2_with (at_builtin; refine wpList_append_own _ rfl (.tmp 29) (.tmp 31) 22 rfl w1.heap.size 2 i0 (.int .i64 0) 1 8 Tryd.underlying22 HI.out HI0.out HI1.out HI2.out rfl (by decide) _ _ _ rfl HL2.out ⟨w2.heap.size, 0, none⟩ 1 1 [.int .i64 i] rfl rfl (cell_one_new _ _ _) (ints_oneCell .i64 [(i : Int)]) (by unfold maxLen; omega) (by omega) (by simp; omega) ?_; intro u4 w4 hown4 hgr4 _; obtain ⟨qa, ql, qc, rfl⟩ := row_slice hown4; have HO4 := Lib.hid hown4; have HG4 := Lib.hid hgr4; clear hown4 hgr4)
        have HL4 : Hid (Own w4 w1.heap.size (.slice qa ql qc) (selL (fun v => onB q (elS P v) (elS P v)) (i + 1))) := by
          show World.ownsRow _ _ _ _ _ _ _
          rw [HN.out, List.length_append, List.map_append]
          exact HO4.out
        have hE4 : Below w1.heap.size w1 w4 := (hE2.alloc hE2.size _).grown HG4.out (by simp; omega) (fun k e => HL2.out.ge k e)
        clear HO4 HG4 HL2 hE2
        go_wp2_with fail
        go_roundw
        case rel => exact ⟨i + 1, by omega, by go_num, HL4, hE4⟩
        case measure => simp [intOf]; omega
      | false =>
        have HON := Lib.hid (hon _ hr)
        have HN := hsel _ hr
        rw [if_neg (by simp)] at HN
        have HN := Lib.hid HN
        clear hr hon hsel hcells hS ht hc0
        go_wp2_with fail
        go_quiet ((go_at_call 44; exact qdrew (HON.out _)))
        generalize hw1 : wr.drewN _ = w2
        have HL4 : Hid (Own w2 w1.heap.size (.slice la ll lc) (selL (fun v => onB q (elS P v) (elS P v)) (i + 1))) := by
          show Own _ _ _ _
          rw [HN.out, ← hw1]; exact HL.out.below (drewN_below (Below.refl _ _) _)
        have hE2 : Below w1.heap.size w1 w2 := by rw [← hw1]; exact drewN_below hE _
        clear hw1 HL hE hcell HON
        go_wp2_with fail
        go_roundw
        case rel => exact ⟨i + 1, by omega, by go_num, HL4, hE2⟩
        case measure => simp [intOf]; omega
    · obtain rfl : i = P.length := by omega
      go_wp2_with fail
      go_ret2
      exact ⟨⟨_, rfl, HL.out.base s1⟩, HB1.out.trans (hE.mono s1)⟩

theorem specAp_no (x : Int) (w : World) (h : ¬ (x = 2 ∨ x = 3 ∨ x = 5 ∨ x = 7)) :
    Calls Tryd.prog 12 #[.int .i64 x] w fun e w' => LRes w.heap.size [] 2 e w' ∧ Below w.heap.size w w' := by
  have HP := Lib.hid (l04Prime_no x w h)
  clear h
  go_enter Tryd.func12, Tryd.ntmps12
  go_wp2_with (go_at_call 42; refine HP.out.mono ?_; rintro e w' ⟨rfl, rfl⟩)
  go_ret2
  exact ⟨⟨_, rfl, Own.nil _ _⟩, Below.refl _ _⟩

theorem specAp_any (x : Int) (w : World) :
    Calls Tryd.prog 12 #[.int .i64 x] w fun e w' => LRes w.heap.size (ApL x) (ApC x) e w' ∧ Below w.heap.size w w' := by
  cases h : isP x with
  | true =>
    rw [show ApL x = absL x.toNat by simp [ApL, h], show ApC x = 0 by simp [ApC, h]]
    have h2 : x = 2 ∨ x = 3 ∨ x = 5 ∨ x = 7 := by simpa [isP] using h
    have e : ((x.toNat : Nat) : Int) = x := by omega
    have := specAp_yes x.toNat w (by omega)
    rw [e] at this
    exact this
  | false =>
    rw [show ApL x = [] by simp [ApL, h], show ApC x = 2 by simp [ApC, h]]
    exact specAp_no x w (by simpa [isP] using h)
end Go.Proofs.YtbfdhnecadgfdaaDoor
