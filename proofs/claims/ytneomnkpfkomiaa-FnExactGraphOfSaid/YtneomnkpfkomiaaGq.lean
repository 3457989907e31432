/-
  impl.GraphOf: its loop.
-/
import Derived.Test.YtneomnkpfkomiaaGo
namespace Go.Proofs.Ytneomnkpfkomiaa
open Go.RowKit Go.Maps Go.WideMaps Go.WideElems

set_option maxHeartbeats 1600000 in
set_option maxRecDepth 100000 in
theorem implGo_nil (n : Nat) (a : Option Addr) (c : Nat) (w : World) (h1 : 1 ≤ n) (hn : n ≤ 62) :
    Calls Try.prog 27 #[.int .i64 n, .slice a 0 c] w fun e w' => GRes w.heap.size (GoN n []) (GoL n []) (GoC n []) e w' ∧ Below w.heap.size w w' := by
  have hmm := @run_makeMap Try.prog
  have D0 : Below w.heap.size w ((w.alloc (.cells #[.int .i64 0, .slice none 0 0] 24)).alloc (.map #[] 0)) := ((Below.refl _ _).alloc (Nat.le_refl _) _).alloc (by simp) _
  have HH := Lib.hid (heap_old_at (World.alloc_heap_new w (.cells #[.int .i64 0, .slice none 0 0] 24)) (.map #[] 0))
  have HP0 := Lib.hid (PS.made (w.alloc (.cells #[.int .i64 0, .slice none 0 0] 24)))
  obtain ⟨W, hW⟩ : ∃ W, W = ((w.alloc (.cells #[.int .i64 0, .slice none 0 0] 24)).alloc (.map #[] 0)) := ⟨_, rfl⟩
  have hsz : w.heap.size + 2 ≤ W.heap.size := by rw [hW]; simp
  rw [← hW] at D0 HH HP0
  rw [World.size_alloc] at HP0
  have h3 : (1 : Int) ≤ n := by omega
  have h4 : (n : Int) ≤ 62 := by omega
  go_enter Try.func27, Try.ntmps27
  go_wp2_with (go_at_call 60; refine (isSize_any _ _).mono ?_; rintro e w' ⟨rfl, rfl⟩)
  rw [← hW]
  clear hW hmm
  go_loopw [22] (fun i wr => i = .int .i64 0 ∧ wr = W) (fun _ _ => 0)
  case atStart => exact ⟨rfl, rfl⟩
  case round =>
    obtain ⟨rfl, rfl⟩ := hrel
    have hE : Below (w.heap.size + 1) wr wr := Below.refl _ _
    have HP := HP0
    have hyes : goOk n [] = true := (by unfold goOk; simp; exact ⟨⟨by omega, by omega⟩, rfl⟩)
    obtain ⟨e1, e2, e3⟩ := Go_yes hyes
    have HGN := Lib.hid e1; have HGL := Lib.hid e2; have HGC := Lib.hid e3
    have hgo := Lib.hid (gop_at n (w.heap.size + 1) (n : Int) (goS [] 0) wr HP.out hn (by simp [goS]) rfl)
    have RB0 := Lib.hid ((hE.block w.heap.size (by omega)).trans HH.out)
    clear HP hyes e1 e2 e3
    go_wp2_with fail
    refine hgo.out.mono ?_
    rintro e w1 ⟨⟨g, rfl, hB, hg⟩, hb1⟩
    have RB := Lib.hid ((hb1.block w.heap.size (by omega)).trans RB0.out)
    obtain ⟨r0, r1, g0, g1⟩ := two_cells RB.out
    have HB := Lib.hid hB
    have hE1 := hE.trans (hb1.mono (by omega))
    clear hB hb1 hE hgo RB0
    go_wp2_with fail
    have hfin := two_set (a := .int .i64 n) (b := .slice (some ⟨g, 0, none⟩) n n) RB.out
    rw [HGN.out, HGL.out, HGC.out]
    refine bodyPost_ret (v := .tuple #[.agg #[.int .i64 n, .slice (some ⟨g, 0, none⟩) n n], .int .i64 0]) (results_cell2 (p := 4) (u := 5) (ty := 24) rfl _ _ w.heap.size 24 _ (0, 0) _ rfl hfin Try.underlying24 rfl (by exact info27)) rfl ⟨⟨_, rfl, ?_⟩, ?_⟩
    · have h := Own.of_blk ((HB.out.other (a := ⟨w.heap.size, 0, none⟩) (by simp; omega) (.int .i64 n)).other (a := ⟨w.heap.size, 1, none⟩) (by simp; omega) (.slice (some ⟨g, 0, none⟩) n n)) (B := w.heap.size) (by omega) (by rw [rowsF_length]; unfold maxLen; omega)
      rw [rowsF_length] at h
      exact h
    · exact ((D0.trans (hE1.mono (by omega))).setCell (p := ⟨w.heap.size, 0, none⟩) (by simp) _).setCell (p := ⟨w.heap.size, 1, none⟩) (by simp) _

set_option maxHeartbeats 1600000 in
set_option maxRecDepth 100000 in
theorem implGo_some (n : Nat) (b off cap : Nat) (Ls : List (List Int)) (w : World) (h1 : 1 ≤ n) (hn : n ≤ 62) (hb : b < w.heap.size) (hc : Rows w b off Ls) (hl : Ls.length ≤ 4000) :
    Calls Try.prog 27 #[.int .i64 n, .slice (some ⟨b, off, none⟩) Ls.length cap] w fun e w' => GRes w.heap.size (GoN n Ls) (GoL n Ls) (GoC n Ls) e w' ∧ Below w.heap.size w w' := by
  have hmm := @run_makeMap Try.prog
  have D0 : Below w.heap.size w ((w.alloc (.cells #[.int .i64 0, .slice none 0 0] 24)).alloc (.map #[] 0)) := ((Below.refl _ _).alloc (Nat.le_refl _) _).alloc (by simp) _
  have HH := Lib.hid (heap_old_at (World.alloc_heap_new w (.cells #[.int .i64 0, .slice none 0 0] 24)) (.map #[] 0))
  have HP0 := Lib.hid (PS.made (w.alloc (.cells #[.int .i64 0, .slice none 0 0] 24)))
  obtain ⟨W, hW⟩ : ∃ W, W = ((w.alloc (.cells #[.int .i64 0, .slice none 0 0] 24)).alloc (.map #[] 0)) := ⟨_, rfl⟩
  have hsz : w.heap.size + 2 ≤ W.heap.size := by rw [hW]; simp
  rw [← hW] at D0 HH HP0
  rw [World.size_alloc] at HP0
  have h3 : (1 : Int) ≤ n := by omega
  have h4 : (n : Int) ≤ 62 := by omega
  have HC := Lib.hid hc
  have h5 : ¬ (4000 : Int) < Ls.length := by omega
  have h6 : ¬ 4000 < Ls.length := by omega
  have hsa := run_toPair
  clear hc
  go_enter Try.func27, Try.ntmps27
  go_wp2_with (go_at_call 60; refine (isSize_any _ _).mono ?_; rintro e w' ⟨rfl, rfl⟩)
  rw [← hW]
  clear hW hmm
  go_loopw [22] (fun i wr => ∃ k : Nat, k ≤ Ls.length ∧ i = .int .i64 k ∧ Hid (edgesOk n Ls k = true) ∧ Hid (PS wr (w.heap.size + 1) (goS Ls k)) ∧ Below (w.heap.size + 1) W wr ∧ W.heap.size ≤ wr.heap.size) (fun i _ => Ls.length - (intOf i).toNat)
  case atStart => exact ⟨0, Nat.zero_le _, rfl, rfl, HP0, Below.refl _ _, Nat.le_refl _⟩
  case round =>
    obtain ⟨k, hk, rfl, HK, HP, hE, hs⟩ := hrel
    by_cases hlt : (k : Int) < Ls.length
    · have hkl : k < Ls.length := by omega
      obtain ⟨p, c, hcell0, hsl0⟩ := HC.out k hkl
      have hbW : b < W.heap.size := Nat.lt_of_lt_of_le hb D0.size
      have hDE : Below w.heap.size w wr := D0.trans (hE.mono (by omega))
      have HE := Lib.hid hDE
      have hcell : wr.cell? ⟨b, off + k, none⟩ = some (.slice p (elS Ls k).length c) := (hDE.cell (p := ⟨b, off + k, none⟩) hb).trans hcell0
      have hk0 : (0 : Int) ≤ k := by omega
      have RB := Lib.hid ((hE.block w.heap.size (by omega)).trans HH.out)
      obtain ⟨r0, r1, g0, g1⟩ := two_cells RB.out
      by_cases hlen : (elS Ls k).length = 2
      · obtain ⟨b2, off2, cap2, hv, hb2, hc2⟩ := sl_some hsl0 (by omega)
        rw [hlen] at hcell hv
        rw [hv] at hcell
        have z0 : wr.cell? ⟨b2, off2, none⟩ = some (.int .i64 (el (elS Ls k) 0)) := (hDE.cell (p := ⟨b2, off2, none⟩) hb2).trans (by have := hc2 0 (by omega); simpa using this)
        have z1 : wr.cell? ⟨b2, off2 + 1, none⟩ = some (.int .i64 (el (elS Ls k) 1)) := (hDE.cell (p := ⟨b2, off2 + 1, none⟩) hb2).trans (hc2 1 (by omega))
        obtain ⟨e0, he0⟩ : ∃ e0, e0 = el (elS Ls k) 0 := ⟨_, rfl⟩
        obtain ⟨e1, he1⟩ : ∃ e1, e1 = el (elS Ls k) 1 := ⟨_, rfl⟩
        rw [← he0] at z0
        rw [← he1] at z1
        have HE0 := Lib.hid he0; have HE1 := Lib.hid he1; have HLEN := Lib.hid hlen
        clear hv hc2 hsl0 hcell0 he0 he1 hlen hDE
        by_cases hd : 0 ≤ e0 ∧ e0 < n ∧ 0 ≤ e1 ∧ e1 < n ∧ e0 ≠ e1
        · have HDI := Lib.hid (fun W1 => areDiff_any n e0 e1 W1 true (by simpa using hd))
          have HK2 : Hid (edgesOk n Ls (k + 1) = true) := by
            show _ = _
            rw [edgesOk_succ, HK.out, (edgeB_iff _ _).2 ⟨HLEN.out, by rw [← HE0.out, ← HE1.out]; exact hd⟩]; rfl
          have HJ := Lib.hid (fun W1 h => join_at (w.heap.size + 1) (goS Ls k) e0.toNat e1.toNat e0 e1 W1 h (by rw [goS_length]; omega) (by omega) (by omega) (by omega) (by omega))
          clear hd r0 r1 g0 g1
          go_wp2_with fail
          obtain ⟨w1, hw1⟩ : ∃ w1, w1 = wr.alloc (.cells #[.int .i64 e0, .int .i64 e1] 71) := ⟨_, rfl⟩
          have HPC : Hid (w1.heap[wr.heap.size]? = some (.cells #[.int .i64 e0, .int .i64 e1] 71 (0, 0))) := by rw [hw1]; exact World.alloc_heap_new wr _
          have hb1 : Below wr.heap.size wr w1 := by rw [hw1]; exact (Below.refl _ _).alloc (Nat.le_refl _) _
          rw [← hw1]
          clear hw1
          have HP1 := Lib.hid (HP.out.below hb1)
          have hE1 : Below (w.heap.size + 1) W w1 := hE.trans (hb1.mono (by omega))
          have t1 := hb1.size
          obtain ⟨y0, y1, -, -⟩ := two_cells HPC.out
          clear hb1 hE HP hcell z0 z1
          refine (HDI.out _).mono ?_
          rintro e w' ⟨rfl, rfl⟩
          go_wp2_with fail
          refine (HJ.out _ HP1.out).mono ?_
          rintro e w2 ⟨⟨v2, rfl⟩, hP2, hg2⟩
          have HP2 : Hid (PS w2 (w.heap.size + 1) (goS Ls (k + 1))) := by
            show PS _ _ _
            rw [show goS Ls (k + 1) = goS Ls k ++ [(e0.toNat, e1.toNat)] by rw [HE0.out, HE1.out]; rfl]
            exact hP2
          have hE2 := hE1.grown hg2 (by omega) (fun j e => by cases e; omega)
          have t2 := hg2.size
          clear hP2 hg2 hE1 HP1 y0 y1
          go_wp2_with fail
          go_roundw
          case rel => exact ⟨k + 1, by omega, by go_num, HK2, HP2, hE2, by omega⟩
          case measure => simp [intOf]; omega
        · have HDI := Lib.hid (fun W1 => areDiff_any n e0 e1 W1 false (by simpa using hd))
          have HBAD : Hid (edgeB n (elS Ls k) = false) := by
            show _ = _
            rw [Bool.eq_false_iff]; intro hh
            have := (edgeB_iff _ _).1 hh
            rw [← HE0.out, ← HE1.out] at this
            exact hd this.2
          have hno : goOk n Ls = false := by
            unfold goOk
            rw [edgesOk_no hkl HBAD.out]; simp
          obtain ⟨e1', e2', e3'⟩ := Go_no hno
          have HGN := Lib.hid e1'; have HGL := Lib.hid e2'; have HGC := Lib.hid e3'
          clear hno e1' e2' e3'
          clear hd r0 r1 g0 g1
          go_wp2_with fail
          obtain ⟨w1, hw1⟩ : ∃ w1, w1 = wr.alloc (.cells #[.int .i64 e0, .int .i64 e1] 71) := ⟨_, rfl⟩
          have hb1 : Below wr.heap.size wr w1 := by rw [hw1]; exact (Below.refl _ _).alloc (Nat.le_refl _) _
          rw [← hw1]
          clear hw1
          have RB1 := Lib.hid ((hb1.block w.heap.size (by omega)).trans RB.out)
          have HE1' := Lib.hid (HE.out.trans (hb1.mono (by omega)))
          clear RB HE hb1 hE HP hcell z0 z1
          have RB := RB1
          have HE := HE1'
          obtain ⟨r0, r1, g0, g1⟩ := two_cells RB.out
          refine (HDI.out _).mono ?_
          rintro e w' ⟨rfl, rfl⟩
          go_wp2_with fail
          have hfin := two_set (a := .int .i64 0) (b := .slice none 0 0) RB.out
          rw [HGN.out, HGL.out, HGC.out]
          refine bodyPost_ret (v := .tuple #[.agg #[.int .i64 0, .slice none 0 0], .int .i64 2]) (results_cell2 (p := 4) (u := 5) (ty := 24) rfl _ _ w.heap.size 24 _ (0, 0) _ rfl hfin Try.underlying24 rfl (by exact info27)) rfl ⟨⟨_, rfl, Own.nil _ _⟩, ?_⟩
          exact (HE.out.setCell (p := ⟨w.heap.size, 0, none⟩) (by simp) _).setCell (p := ⟨w.heap.size, 1, none⟩) (by simp) _
      · have HBAD : Hid (edgeB n (elS Ls k) = false) := by
          show _ = _
          rw [Bool.eq_false_iff]; intro hh
          exact hlen ((edgeB_iff _ _).1 hh).1
        have hlen2 : (((elS Ls k).length : Int) != 2) = true := by rw [bne_iff_ne]; omega
        have hno : goOk n Ls = false := by
          unfold goOk
          rw [edgesOk_no hkl HBAD.out]; simp
        obtain ⟨e1', e2', e3'⟩ := Go_no hno
        have HGN := Lib.hid e1'; have HGL := Lib.hid e2'; have HGC := Lib.hid e3'
        clear hno e1' e2' e3'
        clear hDE hcell0 hsl0
        go_wp2_with fail
        have hfin := two_set (a := .int .i64 0) (b := .slice none 0 0) RB.out
        rw [HGN.out, HGL.out, HGC.out]
        refine bodyPost_ret (v := .tuple #[.agg #[.int .i64 0, .slice none 0 0], .int .i64 2]) (results_cell2 (p := 4) (u := 5) (ty := 24) rfl _ _ w.heap.size 24 _ (0, 0) _ rfl hfin Try.underlying24 rfl (by exact info27)) rfl ⟨⟨_, rfl, Own.nil _ _⟩, ?_⟩
        exact (HE.out.setCell (p := ⟨w.heap.size, 0, none⟩) (by simp) _).setCell (p := ⟨w.heap.size, 1, none⟩) (by simp) _
    · obtain rfl : k = Ls.length := by omega
      have hs' := hs
      have hyes : goOk n Ls = true := (by rw [goOk_iff]; exact ⟨h3, h4, hl, HK.out⟩)
      obtain ⟨e1, e2, e3⟩ := Go_yes hyes
      have HGN := Lib.hid e1; have HGL := Lib.hid e2; have HGC := Lib.hid e3
      have hgo := Lib.hid (gop_at n (w.heap.size + 1) (n : Int) (goS Ls Ls.length) wr HP.out hn (goS_mem n Ls _ HK.out) rfl)
      have RB0 := Lib.hid ((hE.block w.heap.size (by omega)).trans HH.out)
      clear HP hyes e1 e2 e3
      go_wp2_with fail
      refine hgo.out.mono ?_
      rintro e w1 ⟨⟨g, rfl, hB, hg⟩, hb1⟩
      have RB := Lib.hid ((hb1.block w.heap.size (by omega)).trans RB0.out)
      obtain ⟨r0, r1, g0, g1⟩ := two_cells RB.out
      have HB := Lib.hid hB
      have hE1 := hE.trans (hb1.mono (by omega))
      clear hB hb1 hE hgo RB0
      go_wp2_with fail
      have hfin := two_set (a := .int .i64 n) (b := .slice (some ⟨g, 0, none⟩) n n) RB.out
      rw [HGN.out, HGL.out, HGC.out]
      refine bodyPost_ret (v := .tuple #[.agg #[.int .i64 n, .slice (some ⟨g, 0, none⟩) n n], .int .i64 0]) (results_cell2 (p := 4) (u := 5) (ty := 24) rfl _ _ w.heap.size 24 _ (0, 0) _ rfl hfin Try.underlying24 rfl (by exact info27)) rfl ⟨⟨_, rfl, ?_⟩, ?_⟩
      · have h := Own.of_blk ((HB.out.other (a := ⟨w.heap.size, 0, none⟩) (by simp; omega) (.int .i64 n)).other (a := ⟨w.heap.size, 1, none⟩) (by simp; omega) (.slice (some ⟨g, 0, none⟩) n n)) (B := w.heap.size) (by omega) (by rw [rowsF_length]; unfold maxLen; omega)
        rw [rowsF_length] at h
        exact h
      · exact ((D0.trans (hE1.mono (by omega))).setCell (p := ⟨w.heap.size, 0, none⟩) (by simp) _).setCell (p := ⟨w.heap.size, 1, none⟩) (by simp) _
end Go.Proofs.Ytneomnkpfkomiaa
