/-
  spec.GraphOf.
-/
import Derived.Test.YtneomnkpfkomiaaGq
import Derived.Test.YtneomnkpfkomiaaJs
import Derived.BigQuiet
import Derived.Deep.QuietTactic
namespace Go.Proofs.Ytneomnkpfkomiaa
open Go.RowKit

theorem in_val (a b c : Int) (r : Bool) (h : (decide (b ≤ a) && decide (a ≤ c)) = r) (w : World) :
    Calls Try.prog 52 #[.int .i64 a, .int .i64 b, .int .i64 c] w fun e w' => e = .returned (.bool r) ∧ w = w' := by
  rw [← h]; exact in_any a b c w

set_option maxHeartbeats 800000 in
theorem specGo_far (n : Int) (a : Option Addr) (len cap : Nat) (w : World) (h : n < 1 ∨ 62 < n ∨ 4000 < len) (hl : len ≤ 9223372036854775807) :
    Calls Try.prog 25 #[.int .i64 n, .slice a len cap] w fun e w' => GRes w.heap.size 0 [] 2 e w' ∧ Below w.heap.size w w' := by
  have D0 : Below w.heap.size w (w.alloc (.cells #[.int .i64 0, .slice none 0 0] 24)) := (Below.refl _ _).alloc (Nat.le_refl _) _
  have RB := Lib.hid (World.alloc_heap_new w (.cells #[.int .i64 0, .slice none 0 0] 24))
  obtain ⟨W, hW⟩ : ∃ W, W = w.alloc (.cells #[.int .i64 0, .slice none 0 0] 24) := ⟨_, rfl⟩
  rw [← hW] at D0 RB
  have hc : (¬ 1 ≤ n) ∨ (1 ≤ n ∧ ¬ n ≤ 62) ∨ (1 ≤ n ∧ n ≤ 62 ∧ 4000 < len) := by omega
  clear h
  rcases hc with h1 | ⟨h1, h2⟩ | ⟨h1, h2, h3⟩
  all_goals
    go_enter Try.func25, Try.ntmps25
    go_wp2_with (go_at_call 52; refine (in_any _ _ _ _).mono ?_; rintro e w' ⟨rfl, rfl⟩)
    rw [← hW]
    refine bodyPost_ret (v := .tuple #[.agg #[.int .i64 0, .slice none 0 0], .int .i64 2]) (results_cell2 (p := 4) (u := 5) (ty := 24) rfl _ _ w.heap.size 24 _ (0, 0) _ rfl RB.out Try.underlying24 rfl (by exact info27)) rfl ⟨⟨_, rfl, Own.nil _ _⟩, D0⟩

set_option maxHeartbeats 6400000 in
set_option maxRecDepth 100000 in
theorem specGo_nil (n : Nat) (a : Option Addr) (c : Nat) (w : World) (h1 : 1 ≤ n) (hn : n ≤ 62) :
    Calls Try.prog 25 #[.int .i64 n, .slice a 0 c] w fun e w' => GRes w.heap.size (GoN n []) (GoL n []) (GoC n []) e w' ∧ Below w.heap.size w w' := by
  have D0 : Below w.heap.size w (w.alloc (.cells #[.int .i64 0, .slice none 0 0] 24)) := (Below.refl _ _).alloc (Nat.le_refl _) _
  have hem := specEmpty_any n (w.alloc (.cells #[.int .i64 0, .slice none 0 0] 24)) (by omega)
  have HH := Lib.hid (World.alloc_heap_new w (.cells #[.int .i64 0, .slice none 0 0] 24))
  simp only [World.size_alloc] at hem
  have HEM := Lib.hid hem
  have h3 : (1 : Int) ≤ n := by omega
  have h4 : (n : Int) ≤ 62 := by omega
  clear hem
  go_enter Try.func25, Try.ntmps25
  go_wp2_with (first | (go_at_call 52; refine (in_any _ _ _ _).mono ?_; rintro e w' ⟨rfl, rfl⟩) | (go_at_call 53; refine HEM.out.mono ?_; rintro e w1 ⟨rfl, hB1, hb1⟩; have HB1 := Lib.hid hB1; have Hb1 := Lib.hid hb1; clear hB1 hb1))
  have l1 := HB1.out.lt
  obtain ⟨w2, h2w⟩ : ∃ w2, w2 = w1.alloc (.cells #[.int .i64 n, .slice (some ⟨w.heap.size + 1 + 1, 0, none⟩) n n] 24) := ⟨_, rfl⟩
  have X2 : Hid (w2.heap[w1.heap.size]? = some (.cells #[.int .i64 n, .slice (some ⟨w.heap.size + 1 + 1, 0, none⟩) n n] 24 (0, 0))) := by rw [h2w]; exact World.alloc_heap_new w1 _
  have hb2 : Below w1.heap.size w1 w2 := by rw [h2w]; exact (Below.refl _ _).alloc (Nat.le_refl _) _
  rw [← h2w]
  clear h2w HEM
  have HB2 : Hid (Blk w2 (w.heap.size + 1 + 1) (rowsF n (adjS (goS [] 0)))) := by show Blk _ _ _; rw [show adjS (goS [] 0) = fun _ _ => false from rfl, rowsF_none]; exact HB1.out.belowAll hb2
  have E2 : Below (w.heap.size + 1) (w.alloc (.cells #[.int .i64 0, .slice none 0 0] 24)) w2 := Hb1.out.trans (hb2.mono (by omega))
  have s2 : w1.heap.size + 1 ≤ w2.heap.size := (Array.getElem?_eq_some_iff.1 X2.out).1
  have HGW : Hid (w1.heap.size ≠ w.heap.size + 1 + 1) := by show _ ≠ _; omega
  clear hb2 HB1 Hb1
  go_loopw [7] (fun i wr => i = .int .i64 0 ∧ wr = w2) (fun _ _ => 0)
  case atStart => exact ⟨rfl, rfl⟩
  case round =>
    obtain ⟨rfl, rfl⟩ := hrel
    have hE := E2; have HX := X2; have HB := HB2
    have hyes : goOk n [] = true := (by unfold goOk; simp; exact ⟨⟨by omega, by omega⟩, rfl⟩)
    obtain ⟨e1, e2, e3⟩ := Go_yes hyes
    have HGN := Lib.hid e1; have HGL := Lib.hid e2; have HGC := Lib.hid e3
    have RB := Lib.hid ((hE.block w.heap.size (by omega)).trans HH.out)
    obtain ⟨r0, r1, g0, g1⟩ := two_cells RB.out
    obtain ⟨x0, x1, -, -⟩ := two_cells HX.out
    clear hyes e1 e2 e3
    go_wp2_with fail
    have hfin := two_set (a := .int .i64 n) (b := .slice (some ⟨w.heap.size + 1 + 1, 0, none⟩) n n) RB.out
    rw [HGN.out, HGL.out, HGC.out]
    refine bodyPost_ret (v := .tuple #[.agg #[.int .i64 n, .slice (some ⟨w.heap.size + 1 + 1, 0, none⟩) n n], .int .i64 0]) (results_cell2 (p := 4) (u := 5) (ty := 24) rfl _ _ w.heap.size 24 _ (0, 0) _ rfl hfin Try.underlying24 rfl (by exact info27)) rfl ⟨⟨_, rfl, ?_⟩, ?_⟩
    · have h := Own.of_blk ((HB.out.other (a := ⟨w.heap.size, 0, none⟩) (by simp; omega) (.int .i64 n)).other (a := ⟨w.heap.size, 1, none⟩) (by simp; omega) (.slice (some ⟨w.heap.size + 1 + 1, 0, none⟩) n n)) (B := w.heap.size) (by omega) (by rw [rowsF_length]; unfold maxLen; omega)
      rw [rowsF_length] at h
      exact h
    · exact ((D0.trans (hE.mono (by omega))).setCell (p := ⟨w.heap.size, 0, none⟩) (by simp) _).setCell (p := ⟨w.heap.size, 1, none⟩) (by simp) _

set_option maxHeartbeats 6400000 in
set_option maxRecDepth 100000 in
theorem specGo_some (n : Nat) (b off cap : Nat) (Ls : List (List Int)) (w : World) (h1 : 1 ≤ n) (hn : n ≤ 62) (hb : b < w.heap.size) (hc : Rows w b off Ls) (hl : Ls.length ≤ 4000) :
    Calls Try.prog 25 #[.int .i64 n, .slice (some ⟨b, off, none⟩) Ls.length cap] w fun e w' => GRes w.heap.size (GoN n Ls) (GoL n Ls) (GoC n Ls) e w' ∧ Below w.heap.size w w' := by
  have D0 : Below w.heap.size w (w.alloc (.cells #[.int .i64 0, .slice none 0 0] 24)) := (Below.refl _ _).alloc (Nat.le_refl _) _
  have hem := specEmpty_any n (w.alloc (.cells #[.int .i64 0, .slice none 0 0] 24)) (by omega)
  have HH := Lib.hid (World.alloc_heap_new w (.cells #[.int .i64 0, .slice none 0 0] 24))
  simp only [World.size_alloc] at hem
  have HEM := Lib.hid hem
  have h3 : (1 : Int) ≤ n := by omega
  have h4 : (n : Int) ≤ 62 := by omega
  clear hem
  have HC := Lib.hid hc
  have h5 : ¬ (4000 : Int) < Ls.length := by omega
  have h6 : ¬ 4000 < Ls.length := by omega
  clear hc
  go_enter Try.func25, Try.ntmps25
  go_wp2_with (first | (go_at_call 52; refine (in_any _ _ _ _).mono ?_; rintro e w' ⟨rfl, rfl⟩) | (go_at_call 53; refine HEM.out.mono ?_; rintro e w1 ⟨rfl, hB1, hb1⟩; have HB1 := Lib.hid hB1; have Hb1 := Lib.hid hb1; clear hB1 hb1))
  have l1 := HB1.out.lt
  obtain ⟨w2, h2w⟩ : ∃ w2, w2 = w1.alloc (.cells #[.int .i64 n, .slice (some ⟨w.heap.size + 1 + 1, 0, none⟩) n n] 24) := ⟨_, rfl⟩
  have X2 : Hid (w2.heap[w1.heap.size]? = some (.cells #[.int .i64 n, .slice (some ⟨w.heap.size + 1 + 1, 0, none⟩) n n] 24 (0, 0))) := by rw [h2w]; exact World.alloc_heap_new w1 _
  have hb2 : Below w1.heap.size w1 w2 := by rw [h2w]; exact (Below.refl _ _).alloc (Nat.le_refl _) _
  rw [← h2w]
  clear h2w HEM
  have HB2 : Hid (Blk w2 (w.heap.size + 1 + 1) (rowsF n (adjS (goS Ls 0)))) := by show Blk _ _ _; rw [show adjS (goS Ls 0) = fun _ _ => false from rfl, rowsF_none]; exact HB1.out.belowAll hb2
  have E2 : Below (w.heap.size + 1) (w.alloc (.cells #[.int .i64 0, .slice none 0 0] 24)) w2 := Hb1.out.trans (hb2.mono (by omega))
  have s2 : w1.heap.size + 1 ≤ w2.heap.size := (Array.getElem?_eq_some_iff.1 X2.out).1
  have HGW : Hid (w1.heap.size ≠ w.heap.size + 1 + 1) := by show _ ≠ _; omega
  clear hb2 HB1 Hb1
  go_loopw [7] (fun i wr => ∃ k : Nat, k ≤ Ls.length ∧ i = .int .i64 k ∧ Hid (edgesOk n Ls k = true) ∧ Hid (Blk wr (w.heap.size + 1 + 1) (rowsF n (adjS (goS Ls k)))) ∧ Hid (wr.heap[w1.heap.size]? = some (.cells #[.int .i64 n, .slice (some ⟨w.heap.size + 1 + 1, 0, none⟩) n n] 24 (0, 0))) ∧ Below (w.heap.size + 1) (w.alloc (.cells #[.int .i64 0, .slice none 0 0] 24)) wr ∧ w1.heap.size + 1 ≤ wr.heap.size) (fun i _ => Ls.length - (intOf i).toNat)
  case atStart => exact ⟨0, Nat.zero_le _, rfl, rfl, HB2, X2, E2, s2⟩
  case round =>
    obtain ⟨k, hk, rfl, HK, HB, HX, hE, hs⟩ := hrel
    by_cases hlt : (k : Int) < Ls.length
    · have hkl : k < Ls.length := by omega
      obtain ⟨p, c, hcell0, hsl0⟩ := HC.out k hkl
      have hDE : Below w.heap.size w wr := D0.trans (hE.mono (by omega))
      have HE := Lib.hid hDE
      have hcell : wr.cell? ⟨b, off + k, none⟩ = some (.slice p (elS Ls k).length c) := (hDE.cell (p := ⟨b, off + k, none⟩) hb).trans hcell0
      have hk0 : (0 : Int) ≤ k := by omega
      have RB := Lib.hid ((hE.block w.heap.size (by omega)).trans HH.out)
      by_cases hlen : (elS Ls k).length = 2
      · obtain ⟨b2, off2, cap2, hv, hb2, hc2⟩ := sl_some hsl0 (by omega)
        rw [hlen] at hcell hv
        rw [hv] at hcell
        have z0 : wr.cell? ⟨b2, off2, none⟩ = some (.int .i64 (el (elS Ls k) 0)) := (hDE.cell (p := ⟨b2, off2, none⟩) hb2).trans (by have := hc2 0 (by omega); simpa using this)
        have z1 : wr.cell? ⟨b2, off2 + 1, none⟩ = some (.int .i64 (el (elS Ls k) 1)) := (hDE.cell (p := ⟨b2, off2 + 1, none⟩) hb2).trans (hc2 1 (by omega))
        obtain ⟨e0, he0⟩ : ∃ e0, e0 = el (elS Ls k) 0 := ⟨_, rfl⟩
        obtain ⟨e1, he1⟩ : ∃ e1, e1 = el (elS Ls k) 1 := ⟨_, rfl⟩
        rw [← he0] at z0
        rw [← he1] at z1
        have HE0 := Lib.hid he0; have HE1' := Lib.hid he1; have HLEN := Lib.hid hlen
        clear hv hc2 hsl0 hcell0 he0 he1 hlen hDE
        by_cases hd0 : 0 ≤ e0 ∧ e0 ≤ (n : Int) - 1
        · have C0 := Lib.hid (fun W1 => in_val e0 0 ((n : Int) - 1) true (by simp [hd0]) W1)
          by_cases hd1 : 0 ≤ e1 ∧ e1 ≤ (n : Int) - 1
          · have C1 := Lib.hid (fun W1 => in_val e1 0 ((n : Int) - 1) true (by simp [hd1]) W1)
            by_cases hne : e0 = e1
            · have HBAD : Hid (edgeB n (elS Ls k) = false) := by
                show _ = _
                rw [Bool.eq_false_iff]; intro hh
                have := (edgeB_iff _ _).1 hh
                rw [← HE0.out, ← HE1'.out] at this
                exact this.2.2.2.2.2 hne
              subst hne
              have hno : goOk n Ls = false := by
                unfold goOk
                rw [edgesOk_no hkl HBAD.out]; simp
              obtain ⟨e1', e2', e3'⟩ := Go_no hno
              have HGN := Lib.hid e1'; have HGL := Lib.hid e2'; have HGC := Lib.hid e3'
              clear hno e1' e2' e3'
              clear hd0 hd1
              go_wp2_with fail
              go_quiet ((go_at_call 52; first | (with_reducible exact qsame (C0.out _)) | (with_reducible exact qsame (C1.out _))))
              generalize hw1 : wr.drewN _ = w1
              have RB1 : Hid (w1.heap[w.heap.size]? = some (.cells #[.int .i64 0, .slice none 0 0] 24 (0, 0))) := by rw [← hw1]; exact RB.out
              have HE1 : Hid (Below w.heap.size w w1) := by rw [← hw1]; exact drewN_below HE.out _
              clear hw1 hE HB HX hcell z0 z1
              obtain ⟨r0, r1, g0, g1⟩ := two_cells RB1.out
              go_wp2_with fail
              have hfin := two_set (a := .int .i64 0) (b := .slice none 0 0) RB1.out
              rw [HGN.out, HGL.out, HGC.out]
              refine bodyPost_ret (v := .tuple #[.agg #[.int .i64 0, .slice none 0 0], .int .i64 2]) (results_cell2 (p := 4) (u := 5) (ty := 24) rfl _ _ w.heap.size 24 _ (0, 0) _ rfl hfin Try.underlying24 rfl (by exact info27)) rfl ⟨⟨_, rfl, Own.nil _ _⟩, ?_⟩
              exact (HE1.out.setCell (p := ⟨w.heap.size, 0, none⟩) (by simp) _).setCell (p := ⟨w.heap.size, 1, none⟩) (by simp) _
            · have HK2 : Hid (edgesOk n Ls (k + 1) = true) := by
                show _ = _
                rw [edgesOk_succ, HK.out, (edgeB_iff _ _).2 ⟨HLEN.out, by rw [← HE0.out, ← HE1'.out]; omega⟩]; rfl
              have hne2 : (e0 == e1) = false := by simpa using hne
              obtain ⟨d0, d1⟩ := hd0
              obtain ⟨d2, d3⟩ := hd1
              have hp0 : e0.toNat < n := by omega
              have hp1 : e1.toNat < n := by omega
              have HJ := Lib.hid (fun W1 h => put_at n (w.heap.size + 1 + 1) n (goS Ls k) e0.toNat e1.toNat e0 e1 W1 h hp0 hp1 hn (by omega) (by omega))
              clear hne
              go_wp2_with fail
              go_quiet ((go_at_call 52; first | (with_reducible exact qsame (C0.out _)) | (with_reducible exact qsame (C1.out _))))
              generalize hw1 : wr.drewN _ = w3
              have HB3 : Hid (Blk w3 (w.heap.size + 1 + 1) (rowsF n (adjS (goS Ls k)))) := by rw [← hw1]; exact HB.out
              have HX3 : Hid (w3.heap[w1.heap.size]? = some (.cells #[.int .i64 n, .slice (some ⟨w.heap.size + 1 + 1, 0, none⟩) n n] 24 (0, 0))) := by rw [← hw1]; exact HX.out
              have hE3 : Below (w.heap.size + 1) (w.alloc (.cells #[.int .i64 0, .slice none 0 0] 24)) w3 := by rw [← hw1]; exact drewN_below hE _
              have hs3 : w1.heap.size + 1 ≤ w3.heap.size := by rw [← hw1]; exact hs
              have z0' : w3.cell? ⟨b2, off2, none⟩ = some (.int .i64 e0) := by rw [← hw1]; exact z0
              have z1' : w3.cell? ⟨b2, off2 + 1, none⟩ = some (.int .i64 e1) := by rw [← hw1]; exact z1
              clear hw1 hE HB HX hcell z0 z1 RB HE hs
              obtain ⟨x0, x1, -, -⟩ := two_cells HX3.out
              have hlw3 : w1.heap.size < w3.heap.size := by omega
              have hsE := hE3.size
              have HC1 := Lib.hid (fun (w4 : World) (h : w3.drew.grownBy w4 (some (w.heap.size + 1 + 1))) => (h.block w1.heap.size hlw3 (by simp; exact HGW.out)).trans HX3.out)
              have HC2 : Hid (∀ w4 : World, w3.drew.grownBy w4 (some (w.heap.size + 1 + 1)) → Below (w.heap.size + 1) (w.alloc (.cells #[.int .i64 0, .slice none 0 0] 24)) w4) := fun w4 h => hE3.drew.grown h (by simp; omega) (fun j e => by cases e; omega)
              have HC3 : Hid (∀ w4 : World, w3.drew.grownBy w4 (some (w.heap.size + 1 + 1)) → w1.heap.size + 1 ≤ w4.heap.size) := fun w4 h => Nat.le_trans hlw3 h.size
              go_wp2_with fail
              go_region_with (go_at_call 59; refine (HJ.out w3.drew HB3.out).mono ?_; rintro e w4 ⟨⟨v4, rfl⟩, hB4, hg4⟩; have HB4 := Lib.hid hB4; have HX4 := Lib.hid (HC1.out w4 hg4); have hE4 := Lib.hid (HC2.out w4 hg4); have t4 := Lib.hid (HC3.out w4 hg4); clear x0 x1 hB4 hg4)
              all_goals clear HC1 HC2 HC3 HX3 HB3 hE3 HJ z0' z1'
              all_goals
                have HB5 : Hid (Blk w4 (w.heap.size + 1 + 1) (rowsF n (adjS (goS Ls (k + 1))))) := by
                  show Blk _ _ _
                  rw [show goS Ls (k + 1) = goS Ls k ++ [(e0.toNat, e1.toNat)] by rw [HE0.out, HE1'.out]; rfl]
                  exact HB4.out
                go_wp2_with fail
                go_roundw
                case rel => exact ⟨k + 1, by omega, by go_num, HK2, HB5, HX4, hE4.out, t4.out⟩
                case measure => simp [intOf]; omega
          · have C1 := Lib.hid (fun W1 => in_val e1 0 ((n : Int) - 1) false (by rw [Bool.eq_false_iff]; intro hh; simp at hh; omega) W1)
            have HBAD : Hid (edgeB n (elS Ls k) = false) := by
              show _ = _
              rw [Bool.eq_false_iff]; intro hh
              have := (edgeB_iff _ _).1 hh
              rw [← HE0.out, ← HE1'.out] at this
              omega
            by_cases hne : e0 = e1
            · subst hne; exact absurd hd0 hd1
            have hno : goOk n Ls = false := by
              unfold goOk
              rw [edgesOk_no hkl HBAD.out]; simp
            obtain ⟨e1', e2', e3'⟩ := Go_no hno
            have HGN := Lib.hid e1'; have HGL := Lib.hid e2'; have HGC := Lib.hid e3'
            clear hno e1' e2' e3'
            clear hd0 hd1 hne
            go_wp2_with fail
            go_quiet ((go_at_call 52; first | (with_reducible exact qsame (C0.out _)) | (with_reducible exact qsame (C1.out _))))
            generalize hw1 : wr.drewN _ = w1
            have RB1 : Hid (w1.heap[w.heap.size]? = some (.cells #[.int .i64 0, .slice none 0 0] 24 (0, 0))) := by rw [← hw1]; exact RB.out
            have HE1 : Hid (Below w.heap.size w w1) := by rw [← hw1]; exact drewN_below HE.out _
            clear hw1 hE HB HX hcell z0 z1
            obtain ⟨r0, r1, g0, g1⟩ := two_cells RB1.out
            go_wp2_with fail
            have hfin := two_set (a := .int .i64 0) (b := .slice none 0 0) RB1.out
            rw [HGN.out, HGL.out, HGC.out]
            refine bodyPost_ret (v := .tuple #[.agg #[.int .i64 0, .slice none 0 0], .int .i64 2]) (results_cell2 (p := 4) (u := 5) (ty := 24) rfl _ _ w.heap.size 24 _ (0, 0) _ rfl hfin Try.underlying24 rfl (by exact info27)) rfl ⟨⟨_, rfl, Own.nil _ _⟩, ?_⟩
            exact (HE1.out.setCell (p := ⟨w.heap.size, 0, none⟩) (by simp) _).setCell (p := ⟨w.heap.size, 1, none⟩) (by simp) _
        · have C0 := Lib.hid (fun W1 => in_val e0 0 ((n : Int) - 1) false (by rw [Bool.eq_false_iff]; intro hh; simp at hh; omega) W1)
          have HBAD : Hid (edgeB n (elS Ls k) = false) := by
            show _ = _
            rw [Bool.eq_false_iff]; intro hh
            have := (edgeB_iff _ _).1 hh
            rw [← HE0.out, ← HE1'.out] at this
            omega
          have hno : goOk n Ls = false := by
            unfold goOk
            rw [edgesOk_no hkl HBAD.out]; simp
          obtain ⟨e1', e2', e3'⟩ := Go_no hno
          have HGN := Lib.hid e1'; have HGL := Lib.hid e2'; have HGC := Lib.hid e3'
          clear hno e1' e2' e3'
          clear hd0
          go_wp2_with fail
          go_quiet ((go_at_call 52; exact qsame (C0.out _)))
          generalize hw1 : wr.drewN _ = w1
          have RB1 : Hid (w1.heap[w.heap.size]? = some (.cells #[.int .i64 0, .slice none 0 0] 24 (0, 0))) := by rw [← hw1]; exact RB.out
          have HE1 : Hid (Below w.heap.size w w1) := by rw [← hw1]; exact drewN_below HE.out _
          clear hw1 hE HB HX hcell z0 z1
          obtain ⟨r0, r1, g0, g1⟩ := two_cells RB1.out
          go_wp2_with fail
          have hfin := two_set (a := .int .i64 0) (b := .slice none 0 0) RB1.out
          rw [HGN.out, HGL.out, HGC.out]
          refine bodyPost_ret (v := .tuple #[.agg #[.int .i64 0, .slice none 0 0], .int .i64 2]) (results_cell2 (p := 4) (u := 5) (ty := 24) rfl _ _ w.heap.size 24 _ (0, 0) _ rfl hfin Try.underlying24 rfl (by exact info27)) rfl ⟨⟨_, rfl, Own.nil _ _⟩, ?_⟩
          exact (HE1.out.setCell (p := ⟨w.heap.size, 0, none⟩) (by simp) _).setCell (p := ⟨w.heap.size, 1, none⟩) (by simp) _
      · have HBAD : Hid (edgeB n (elS Ls k) = false) := by
          show _ = _
          rw [Bool.eq_false_iff]; intro hh
          exact hlen ((edgeB_iff _ _).1 hh).1
        have hlen2 : (((elS Ls k).length : Int) != 2) = true := by rw [bne_iff_ne]; omega
        have hno : goOk n Ls = false := by
          unfold goOk
          rw [edgesOk_no hkl HBAD.out]; simp
        obtain ⟨e1', e2', e3'⟩ := Go_no hno
        have HGN := Lib.hid e1'; have HGL := Lib.hid e2'; have HGC := Lib.hid e3'
        clear hno e1' e2' e3'
        clear hDE hcell0 hsl0
        go_wp2_with fail
        go_quiet (fail)
        generalize hw1 : wr.drewN _ = w1
        have RB1 : Hid (w1.heap[w.heap.size]? = some (.cells #[.int .i64 0, .slice none 0 0] 24 (0, 0))) := by rw [← hw1]; exact RB.out
        have HE1 : Hid (Below w.heap.size w w1) := by rw [← hw1]; exact drewN_below HE.out _
        clear hw1 hE HB HX hcell
        obtain ⟨r0, r1, g0, g1⟩ := two_cells RB1.out
        go_wp2_with fail
        have hfin := two_set (a := .int .i64 0) (b := .slice none 0 0) RB1.out
        rw [HGN.out, HGL.out, HGC.out]
        refine bodyPost_ret (v := .tuple #[.agg #[.int .i64 0, .slice none 0 0], .int .i64 2]) (results_cell2 (p := 4) (u := 5) (ty := 24) rfl _ _ w.heap.size 24 _ (0, 0) _ rfl hfin Try.underlying24 rfl (by exact info27)) rfl ⟨⟨_, rfl, Own.nil _ _⟩, ?_⟩
        exact (HE1.out.setCell (p := ⟨w.heap.size, 0, none⟩) (by simp) _).setCell (p := ⟨w.heap.size, 1, none⟩) (by simp) _
    · obtain rfl : k = Ls.length := by omega
      have hyes : goOk n Ls = true := (by rw [goOk_iff]; exact ⟨h3, h4, hl, HK.out⟩)
      obtain ⟨e1, e2, e3⟩ := Go_yes hyes
      have HGN := Lib.hid e1; have HGL := Lib.hid e2; have HGC := Lib.hid e3
      have RB := Lib.hid ((hE.block w.heap.size (by omega)).trans HH.out)
      obtain ⟨r0, r1, g0, g1⟩ := two_cells RB.out
      obtain ⟨x0, x1, -, -⟩ := two_cells HX.out
      clear hyes e1 e2 e3
      go_wp2_with fail
      have hfin := two_set (a := .int .i64 n) (b := .slice (some ⟨w.heap.size + 1 + 1, 0, none⟩) n n) RB.out
      rw [HGN.out, HGL.out, HGC.out]
      refine bodyPost_ret (v := .tuple #[.agg #[.int .i64 n, .slice (some ⟨w.heap.size + 1 + 1, 0, none⟩) n n], .int .i64 0]) (results_cell2 (p := 4) (u := 5) (ty := 24) rfl _ _ w.heap.size 24 _ (0, 0) _ rfl hfin Try.underlying24 rfl (by exact info27)) rfl ⟨⟨_, rfl, ?_⟩, ?_⟩
      · have h := Own.of_blk ((HB.out.other (a := ⟨w.heap.size, 0, none⟩) (by simp; omega) (.int .i64 n)).other (a := ⟨w.heap.size, 1, none⟩) (by simp; omega) (.slice (some ⟨w.heap.size + 1 + 1, 0, none⟩) n n)) (B := w.heap.size) (by omega) (by rw [rowsF_length]; unfold maxLen; omega)
        rw [rowsF_length] at h
        exact h
      · exact ((D0.trans (hE.mono (by omega))).setCell (p := ⟨w.heap.size, 0, none⟩) (by simp) _).setCell (p := ⟨w.heap.size, 1, none⟩) (by simp) _

theorem implGo_any (n : Int) (v : Value) (Ls : List (List Int)) (w : World) (hs : SS w v Ls) (hl : Ls.length ≤ 9223372036854775807) :
    Calls Try.prog 27 #[.int .i64 n, v] w fun e w' => GRes w.heap.size (GoN n Ls) (GoL n Ls) (GoC n Ls) e w' ∧ Below w.heap.size w w' := by
  by_cases h : n < 1 ∨ 62 < n ∨ 4000 < Ls.length
  · have hno : goOk n Ls = false := by
      cases e : goOk n Ls with
      | false => rfl
      | true => have := (goOk_iff n Ls).1 e; omega
    obtain ⟨e1, e2, e3⟩ := Go_no hno
    rw [e1, e2, e3, hs.form]
    exact implGo_far n _ _ _ w h hl
  · obtain ⟨n', rfl⟩ := Int.eq_ofNat_of_zero_le (show 0 ≤ n by omega)
    by_cases h0 : Ls.length = 0
    · obtain rfl := List.eq_nil_of_length_eq_zero h0
      rw [hs.form]
      exact implGo_nil n' _ _ w (by omega) (by omega)
    · obtain ⟨b, off, cap, rfl, hb, hc⟩ := hs.rows (by omega)
      exact implGo_some n' b off cap Ls w (by omega) (by omega) hb hc (by omega)

theorem specGo_any (n : Int) (v : Value) (Ls : List (List Int)) (w : World) (hs : SS w v Ls) (hl : Ls.length ≤ 9223372036854775807) :
    Calls Try.prog 25 #[.int .i64 n, v] w fun e w' => GRes w.heap.size (GoN n Ls) (GoL n Ls) (GoC n Ls) e w' ∧ Below w.heap.size w w' := by
  by_cases h : n < 1 ∨ 62 < n ∨ 4000 < Ls.length
  · have hno : goOk n Ls = false := by
      cases e : goOk n Ls with
      | false => rfl
      | true => have := (goOk_iff n Ls).1 e; omega
    obtain ⟨e1, e2, e3⟩ := Go_no hno
    rw [e1, e2, e3, hs.form]
    exact specGo_far n _ _ _ w h hl
  · obtain ⟨n', rfl⟩ := Int.eq_ofNat_of_zero_le (show 0 ≤ n by omega)
    by_cases h0 : Ls.length = 0
    · obtain rfl := List.eq_nil_of_length_eq_zero h0
      rw [hs.form]
      exact specGo_nil n' _ _ w (by omega) (by omega)
    · obtain ⟨b, off, cap, rfl, hb, hc⟩ := hs.rows (by omega)
      exact specGo_some n' b off cap Ls w (by omega) (by omega) hb hc (by omega)
end Go.Proofs.Ytneomnkpfkomiaa
