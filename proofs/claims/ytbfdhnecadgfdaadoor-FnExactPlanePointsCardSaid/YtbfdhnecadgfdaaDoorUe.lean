/-
  impl.PlanePoints, spec.PlanePoints.
-/
import Derived.Test.YtbfdhnecadgfdaaDoorUc
import Derived.Test.YtbfdhnecadgfdaaDoorUd
namespace Go.Proofs.YtbfdhnecadgfdaaDoor
set_option maxRecDepth 100000
open Go.RowKit Go.Maps Go.WideMaps Go.WideElems

/-- Block g has n cells; the first i are slices that own, behind g, the first i lists of Ls, each in a row of its own. -/
def LB (w : World) (g n : Nat) (Ls : List (List Int)) (i : Nat) : Prop := ∃ (A : Array Value) (us : Nat → Value), w.heap[g]? = some (.cells A 22 (0, 0)) ∧ A.size = n ∧
  (∀ j, j < i → A[j]? = some (us j) ∧ Own w (g + 1) (us j) (elS Ls j)) ∧ ∀ j k b, j ≠ k → j < i → k < i → (us j).ownBlock = some b → (us k).ownBlock ≠ some b
theorem LB.lt {w : World} {g n i : Nat} {Ls : List (List Int)} (h : LB w g n Ls i) : g < w.heap.size := by
  obtain ⟨A, us, h1, _⟩ := h; exact (Array.getElem?_eq_some_iff.1 h1).1
theorem LB.below {w w' : World} {g n i : Nat} {Ls : List (List Int)} (h : LB w g n Ls i) (hb : Below w.heap.size w w') : LB w' g n Ls i := by
  have hl := h.lt
  obtain ⟨A, us, h1, h2, h3, h4⟩ := h
  exact ⟨A, us, (hb.block g hl).trans h1, h2, fun j hj => ⟨(h3 j hj).1, (h3 j hj).2.below hb⟩, h4⟩
theorem LB.new (w : World) (Ls : List (List Int)) : LB (w.alloc (.cells (ptrsA [] Ls) 22)) w.heap.size Ls.length Ls 0 :=
  ⟨_, fun _ => .bool false, World.alloc_heap_new w _, by simp [ptrsA], fun j h => by omega, fun j k b _ h => by omega⟩
theorem LB.frozen {w : World} {g n i : Nat} {Ls : List (List Int)} (h : LB w g n Ls i) (j : Nat) : w.frozen? ⟨g, j, none⟩ = false := by
  obtain ⟨A, us, h1, _⟩ := h; exact frozen_of_row w g j _ _ h1
theorem LB.cell {w : World} {g n i : Nat} {Ls : List (List Int)} (h : LB w g n Ls i) {j : Nat} (hj : j < n) : ∃ x, w.cell? ⟨g, j, none⟩ = some x := by
  obtain ⟨A, us, h1, h2, _⟩ := h
  exact ⟨A[j]'(by omega), by rw [cell_of_row w g j _ _ _ h1]; simp [h2, hj]⟩
/-- One list more. -/
theorem LB.snoc {w w3 : World} {g n i : Nat} {Ls : List (List Int)} {u : Value} (h : LB w g n Ls i) (hi : i < n) (hb : Below w.heap.size w w3) (hu : Own w3 w.heap.size u (elS Ls i)) : LB (w3.setCell ⟨g, i, none⟩ u) g n Ls (i + 1) := by
  have hl := h.lt
  obtain ⟨A, us, h1, h2, h3, h4⟩ := h
  have k1 := (hb.block g hl).trans h1
  have far : ∀ {x : Value} {B : Nat} {L : List Int}, Own w3 B x L → g < B → Own (w3.setCell ⟨g, i, none⟩ u) B x L := fun {x B L} hx hB =>
    hx.kept (grown_set ⟨rfl, rfl, rfl, Nat.le_refl _, fun _ _ _ => rfl⟩ g i u) (.inr fun e => by have := hx.ge _ e; omega)
  refine ⟨A.setIfInBounds i u, fun j => if j = i then u else us j, heap_setCell_same w3 g i _ _ _ k1, by simp [h2], fun j hj => ?_, fun j k b hjk hj hk => ?_⟩
  · by_cases e : j = i
    · subst e
      simp only
      exact ⟨by simp [h2, hi], far (hu.base (by omega)) (Nat.lt_succ_self g)⟩
    · simp only [if_neg e]
      obtain ⟨a, c⟩ := h3 j (by omega)
      refine ⟨?_, far (c.below hb) (Nat.lt_succ_self g)⟩
      rw [Array.getElem?_setIfInBounds_ne (fun e2 => e e2.symm)]; exact a
  · by_cases e : j = i
    · subst e
      have hki : k < j := by omega
      simp only [if_neg (show ¬ k = j by omega)]
      intro h5 h6
      have := hu.ge b h5
      have := (h3 k hki).2.lt b h6
      omega
    · by_cases e2 : k = i
      · subst e2
        have hji : j < k := by omega
        simp only [if_neg e]
        intro h5 h6
        have := hu.ge b h6
        have := (h3 j hji).2.lt b h5
        omega
      · simp only [if_neg e, if_neg e2]
        exact h4 j k b hjk (by omega) (by omega)
theorem LB.lo {w : World} {g n B : Nat} {Ls : List (List Int)} (h : LB w g n Ls n) (hn : Ls.length = n) (hB : B ≤ g) : LO w B (.slice (some ⟨g, 0, none⟩) n n) Ls := by
  have hl := h.lt
  obtain ⟨A, us, h1, h2, h3, h4⟩ := h
  subst hn
  refine .inr ⟨g, _, us, rfl, hB, hl, fun i hi => ?_, h4⟩
  obtain ⟨a, b⟩ := h3 i hi
  exact ⟨by rw [cell_of_row w g i _ _ _ h1]; exact a, b.base (by omega), fun e => by have := b.ge _ e; omega⟩

/-- A list of lists and a code, the lists in memory of their own. -/
def NRes (B : Nat) (Ls : List (List Int)) (c : Int) (e : Ending) (w' : World) : Prop := ∃ v, e = .returned (.tuple #[v, .int .i64 c]) ∧ LO w' B v Ls
/-- A list of lists and a code. -/
def SRes (Ls : List (List Int)) (c : Int) (e : Ending) (w' : World) : Prop := ∃ v, e = .returned (.tuple #[v, .int .i64 c]) ∧ SS w' v Ls
def PpL (x : Int) : List (List Int) := if isP x then ptsL x.toNat else []
theorem tri_list {t : List Int} (h : Tri t) : t = [el t 0, el t 1, el t 2] := by
  obtain ⟨h1, _⟩ := h
  match t, h1 with
  | [a, b, c], _ => rfl

set_option maxHeartbeats 3200000 in
set_option maxRecDepth 100000 in
theorem implPp_yes (q : Nat) (w : World) (h : q = 2 ∨ q = 3 ∨ q = 5 ∨ q = 7) (hT : Tab w) :
    Calls Tryd.prog 18 #[.int .i64 q] w fun e w' => NRes w.heap.size (ptsL q) 0 e w' ∧ Below w.heap.size w w' := by
  have hq : 2 ≤ q ∧ q ≤ 7 := by omega
  have hp := points_any q w (by omega) hT
  clear hT
  rw [runP_pts q h] at hp
  obtain ⟨hl0, hl57⟩ := pts_len57 q h
  have htri := fun i => pts_at q i hq.2
  obtain ⟨P, hP⟩ : ∃ P, P = ptsL q := ⟨_, rfl⟩
  rw [← hP] at hp hl0 hl57 htri ⊢
  have HTRI := Lib.hid htri; have HP := Lib.hid hp
  clear hP hp htri h
  have hmk := fun W => run_mkSlices P (by omega) W
  go_enter Tryd.func18, Tryd.ntmps18
  go_wp2_with (go_at_call 45; refine HP.out.mono ?_; rintro e w1 ⟨⟨pv, rfl, hO⟩, hb1⟩; obtain ⟨g, cap, rfl, hg0, hg1, hcells⟩ := hO.form hl0; have HCE := Lib.hid hcells; have HB1 := Lib.hid hb1; clear hO hb1 hcells)
  have s1 := HB1.out.size
  clear HP hmk
  have hL0 := Lib.hid (LB.new w1 P)
  have E0 : Below w1.heap.size w1 (w1.alloc (.cells (ptrsA [] P) 22)) := (Below.refl _ _).alloc (Nat.le_refl _) _
  go_loopw [22] (fun c wr => ∃ i : Nat, i ≤ P.length ∧ c = .int .i64 i ∧ Hid (LB wr w1.heap.size P.length P i) ∧ Below w1.heap.size w1 wr) (fun c _ => P.length - (intOf c).toNat)
  case atStart => exact ⟨0, Nat.zero_le _, rfl, hL0, E0⟩
  case round =>
    obtain ⟨i, hi, rfl, HL, hE⟩ := hrel
    by_cases hlt : (i : Int) < P.length
    · have hil : i < P.length := by omega
      have ht := HTRI.out i hil
      obtain ⟨y0, y1, y2⟩ := HCE.out i hil
      have z0 : wr.cell? ⟨g, i * 3, none⟩ = some (.int .i64 (el (elS P i) 0)) := (hE.cell (p := ⟨g, i * 3, none⟩) hg1).trans y0
      have z1 : wr.cell? ⟨g, i * 3 + 1, none⟩ = some (.int .i64 (el (elS P i) 1)) := (hE.cell (p := ⟨g, i * 3 + 1, none⟩) hg1).trans y1
      have z2 : wr.cell? ⟨g, i * 3 + 2, none⟩ = some (.int .i64 (el (elS P i) 2)) := (hE.cell (p := ⟨g, i * 3 + 2, none⟩) hg1).trans y2
      clear y0 y1 y2
      have hi0 : (0 : Int) ≤ i := by omega
      have htl := tri_list ht
      obtain ⟨t0, e0⟩ : ∃ x, x = el (elS P i) 0 := ⟨_, rfl⟩
      obtain ⟨t1, e1⟩ : ∃ x, x = el (elS P i) 1 := ⟨_, rfl⟩
      obtain ⟨t2, e2⟩ : ∃ x, x = el (elS P i) 2 := ⟨_, rfl⟩
      rw [← e0, ← e1, ← e2] at htl
      rw [← e0] at z0; rw [← e1] at z1; rw [← e2] at z2
      have HTL := Lib.hid htl
      clear ht e0 e1 e2 htl
      obtain ⟨w2, hw2⟩ : ∃ w2, w2 = wr.alloc (.cells #[.int .i64 t0, .int .i64 t1, .int .i64 t2] 53) := ⟨_, rfl⟩
      have hX2 : w2.heap[wr.heap.size]? = some (.cells #[.int .i64 t0, .int .i64 t1, .int .i64 t2] 53 (0, 0)) := by rw [hw2]; exact World.alloc_heap_new wr _
      have hb2' : Below wr.heap.size wr w2 := by rw [hw2]; exact (Below.refl _ _).alloc (Nat.le_refl _) _
      have HL2 := Lib.hid (HL.out.below hb2')
      have hE2 : Below w1.heap.size w1 w2 := hE.trans (hb2'.mono hE.size)
      have HW2 := Lib.hid hw2
      have hcl : Calls Tryd.prog 47 #[.slice (some ⟨wr.heap.size, 0, none⟩) 3 3] w2 fun e w' => Cloned w2 [t0, t1, t2] e w' ∧ Below w2.heap.size w2 w' :=
        clone_some wr.heap.size 0 3 [t0, t1, t2] w2 (Array.getElem?_eq_some_iff.1 hX2).1 (fun j hj => by
          obtain ⟨⟨x0, x1, x2⟩, -⟩ := three_at hX2
          rw [Nat.zero_add]
          match j, hj with
          | 0, _ => exact x0
          | 1, _ => exact x1
          | 2, _ => exact x2) (by simp)
      have HCL := Lib.hid hcl
      have hgl := HL.out.lt
      clear hb2' hw2 HL hE hX2 hcl
      go_upto_region 8 with fail
      rw [← HW2.out]
      go_wp2_with fail
      refine HCL.out.mono ?_
      rintro e w3 ⟨⟨u, rfl, hu⟩, hb3⟩
      obtain ⟨ua, ul, uc, hueq⟩ := row_slice hu
      subst hueq
      have HL3 := Lib.hid (HL2.out.below hb3)
      obtain ⟨x, hx⟩ := HL3.out.cell hil
      have hfr := HL3.out.frozen i
      have hU : Own w3 w2.heap.size (.slice ua ul uc) (elS P i) := by rw [HTL.out]; exact hu
      have HL4 := Lib.hid (HL2.out.snoc hil hb3 hU)
      have hE4 : Below w1.heap.size w1 (w3.setCell ⟨w1.heap.size, i, none⟩ (.slice ua ul uc)) := (hE2.trans (hb3.mono hE2.size)).setCell (p := ⟨w1.heap.size, i, none⟩) (Nat.le_refl _) _
      clear hU hu hb3 HCL HL2 HW2 hE2 z0 z1 z2
      go_wp2_with fail
      go_roundw
      case rel => exact ⟨i + 1, by omega, by go_num, HL4, hE4⟩
      case measure => simp [intOf]; omega
    · obtain rfl : i = P.length := by omega
      go_wp2_with fail
      go_ret2
      exact ⟨⟨_, rfl, HL.out.lo rfl s1⟩, HB1.out.trans (hE.mono s1)⟩

theorem implPp_no (x : Int) (w : World) (h : ¬ (x = 2 ∨ x = 3 ∨ x = 5 ∨ x = 7)) :
    Calls Tryd.prog 18 #[.int .i64 x] w fun e w' => NRes w.heap.size [] 2 e w' ∧ Below w.heap.size w w' := by
  have HP := Lib.hid (points_no x w h)
  clear h
  go_enter Tryd.func18, Tryd.ntmps18
  go_wp2_with (go_at_call 45; refine HP.out.mono ?_; rintro e w' ⟨rfl, rfl⟩)
  go_ret2
  exact ⟨⟨_, rfl, .inl ⟨rfl, rfl⟩⟩, Below.refl _ _⟩

theorem implPp_any (x : Int) (w : World) (hT : Tab w) :
    Calls Tryd.prog 18 #[.int .i64 x] w fun e w' => NRes w.heap.size (PpL x) (ApC x) e w' ∧ Below w.heap.size w w' := by
  cases h : isP x with
  | true =>
    rw [show PpL x = ptsL x.toNat by simp [PpL, h], show ApC x = 0 by simp [ApC, h]]
    have h2 : x = 2 ∨ x = 3 ∨ x = 5 ∨ x = 7 := by simpa [isP] using h
    have e : ((x.toNat : Nat) : Int) = x := by omega
    have := implPp_yes x.toNat w (by omega) hT
    rw [e] at this
    exact this
  | false =>
    rw [show PpL x = [] by simp [PpL, h], show ApC x = 2 by simp [ApC, h]]
    exact implPp_no x w (by simpa [isP] using h)

theorem specPp_any (x : Int) (w : World) :
    Calls Tryd.prog 17 #[.int .i64 x] w fun e w' => SRes (PpL x) (ApC x) e w' ∧ Below w.heap.size w w' := by
  cases h : isP x with
  | true =>
    rw [show PpL x = ptsL x.toNat by simp [PpL, h], show ApC x = 0 by simp [ApC, h]]
    have h2 : x = 2 ∨ x = 3 ∨ x = 5 ∨ x = 7 := by simpa [isP] using h
    have e : ((x.toNat : Nat) : Int) = x := by omega
    have hp := specPoints_any x.toNat w (by omega)
    rw [e] at hp
    have HP := Lib.hid hp; have HPR := Lib.hid (l04Prime_yes x w h2)
    clear hp h2 h e
    go_enter Tryd.func17, Tryd.ntmps17
    go_wp2_with (first
      | (go_at_call 42; refine HPR.out.mono ?_; rintro e w' ⟨rfl, rfl⟩)
      | (go_at_call 43; refine HP.out.mono ?_; rintro e w1 ⟨⟨tv, rfl, hT⟩, hb1⟩; have HT := Lib.hid hT; have HB1 := Lib.hid hb1; clear hT hb1))
    go_ret2
    exact ⟨⟨_, rfl, HT.out.ss⟩, HB1.out⟩
  | false =>
    rw [show PpL x = [] by simp [PpL, h], show ApC x = 2 by simp [ApC, h]]
    have HPR := Lib.hid (l04Prime_no x w (by simpa [isP] using h))
    clear h
    go_enter Tryd.func17, Tryd.ntmps17
    go_wp2_with (go_at_call 42; refine HPR.out.mono ?_; rintro e w' ⟨rfl, rfl⟩)
    go_ret2
    exact ⟨⟨_, rfl, .inl ⟨_, _, rfl, rfl⟩⟩, Below.refl _ _⟩
end Go.Proofs.YtbfdhnecadgfdaaDoor
