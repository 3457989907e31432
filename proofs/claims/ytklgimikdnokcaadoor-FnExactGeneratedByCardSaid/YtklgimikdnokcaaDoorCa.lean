/-
  impl.graphOfProducts at the three kinds of groups.
-/
import Derived.Test.YtklgimikdnokcaaDoorCp
import Derived.Test.YtklgimikdnokcaaDoorGb
import Derived.Deep.RegionWith
namespace Go.Proofs.YtklgimikdnokcaaDoor
set_option maxRecDepth 100000
open Go.RowKit

/-- The rows of all products. -/
def proR (k p : Nat) (js : List Int) : List Int := rowsF (gOrd k p) fun x => proF k p x js
theorem proR_length (k p : Nat) (js : List Int) : (proR k p js).length = gOrd k p := rowsF_length _ _
theorem proR_el (k p : Nat) (js : List Int) (x : Nat) (h : x < gOrd k p) : el (proR k p js) x = ((bitsN (proF k p x js) (gOrd k p) : Nat) : Int) := el_rowsF _ _ _ h

set_option maxHeartbeats 3200000 in
set_option maxRecDepth 100000 in
theorem graphOf_0 (p : Nat) (v : Value) (js : List Int) (w : World) (h : gOk 0 p = true) (hj : elOk (gOrd 0 p) js js.length = true) (hs : Sl w v js) (hl : js.length ≤ 9223372036854775807) :
    Calls Tryd.prog 39 #[gIf 0 p, v] w fun e w' => GRet w.heap.size (gOrd 0 p) (proR 0 p js) e w' ∧ Below w.heap.size w w' := by
  have D0 : Below w.heap.size w (w.alloc (.cells #[.int .i64 0, .slice none 0 0] 36)) := (Below.refl _ _).alloc (Nat.le_refl _) _
  have HH := Lib.hid (World.alloc_heap_new w (.cells #[.int .i64 0, .slice none 0 0] 36))
  have hord := order_0 p (w.alloc (.cells #[.int .i64 0, .slice none 0 0] 36)) h
  have HPW := Lib.hid (fun x W (hx : x < gOrd 0 p) (hsw : Sl W v js) => productsWith_0s p x v js W h hx hj hsw hl)
  have hle := gOrd_le h
  have HS := Lib.hid hs
  have HLN := Lib.hid (proR_length 0 p js)
  have HEL := Lib.hid (proR_el 0 p js)
  obtain ⟨n, hn⟩ : ∃ n, n = gOrd 0 p := ⟨_, rfl⟩
  rw [← hn] at hord HPW hle HLN HEL ⊢
  have hem := fun W => implEmpty_any n W (by omega)
  simp only [World.size_alloc] at hord
  clear hs hj h hn
  unfold gIf at *
  go_enter Tryd.func39, Tryd.ntmps39
  go_wp2_with fail
  refine hord.mono ?_
  rintro e w1 ⟨rfl, hb1⟩
  have s1 := hb1.size
  simp only [World.size_alloc] at s1
  clear hord
  go_wp2_with fail
  refine (hem _).mono ?_
  rintro e w2 ⟨rfl, hB2, hb2⟩
  have HB2 := Lib.hid hB2
  have s2 := hb2.size
  have l2 := hB2.lt
  have E2 := hb1.trans (hb2.mono s1)
  clear hb1 hb2 hB2 hem
  go_wp2_with fail
  obtain ⟨g, hg⟩ : ∃ g, g = w1.heap.size + 1 := ⟨_, rfl⟩
  obtain ⟨w3, h3⟩ : ∃ w3, w3 = w2.alloc (.cells #[.int .i64 n, .slice (some ⟨w1.heap.size + 1, 0, none⟩) n n] 36) := ⟨_, rfl⟩
  have X3 : Hid (w3.heap[w2.heap.size]? = some (.cells #[.int .i64 n, .slice (some ⟨g, 0, none⟩) n n] 36 (0, 0))) := by rw [h3, hg]; exact World.alloc_heap_new w2 _
  have hb3 : Below w2.heap.size w2 w3 := by rw [h3]; exact (Below.refl _ _).alloc (Nat.le_refl _) _
  have s3 : w2.heap.size + 1 ≤ w3.heap.size := (Array.getElem?_eq_some_iff.1 X3.out).1
  rw [← h3]
  rw [← hg] at HB2 l2 ⊢
  have HB3 : Hid (Blk w3 g (part (proR 0 p js) 0)) := by show Blk _ _ _; rw [part_zero, HLN.out]; exact HB2.out.belowAll hb3
  have E3 := E2.trans (hb3.mono (by omega))
  have g1 : w.heap.size + 2 ≤ g := by omega
  obtain ⟨bx, hbx⟩ : ∃ bx, bx = w2.heap.size := ⟨_, rfl⟩
  rw [← hbx] at X3 s3 l2 ⊢
  clear h3 hb3 HB2 E2 hg hbx s1 s2
  go_loopw [13] (fun i wr => ∃ x : Nat, x ≤ n ∧ i = .int .i64 x ∧ Hid (Blk wr g (part (proR 0 p js) x)) ∧ Hid (wr.heap[bx]? = some (.cells #[.int .i64 n, .slice (some ⟨g, 0, none⟩) n n] 36 (0, 0))) ∧ Below (w.heap.size + 1) (w.alloc (.cells #[.int .i64 0, .slice none 0 0] 36)) wr ∧ bx + 1 ≤ wr.heap.size) (fun i _ => n - (intOf i).toNat)
  case atStart => exact ⟨0, Nat.zero_le _, rfl, HB3, X3, E3, s3⟩
  case round =>
    obtain ⟨x, hx, rfl, HB, HX, hE, hs⟩ := hrel
    by_cases hlt : x < n
    · obtain ⟨x0, x1, -, -⟩ := two_cells HX.out
      have hxn : (x : Int) < n := by omega
      have hx0 : (0 : Int) ≤ x := by omega
      have HC := Lib.hid (HPW.out x wr.drew hlt (HS.out.below ((D0.trans (hE.mono (by omega))).drew)))
      have HW : Hid (∀ w3 : World, Below wr.drew.heap.size wr.drew w3 → Blk w3 g (part (proR 0 p js) x) ∧ w3.heap[bx]? = some (.cells #[.int .i64 n, .slice (some ⟨g, 0, none⟩) n n] 36 (0, 0)) ∧ Below (w.heap.size + 1) (w.alloc (.cells #[.int .i64 0, .slice none 0 0] 36)) w3 ∧ bx + 1 ≤ w3.heap.size) := fun w3 h3 =>
        ⟨(h3.block g (by simp; omega)).trans HB.out, (h3.block bx (by simp; omega)).trans HX.out, hE.drew.trans (h3.mono (by simp; omega)), Nat.le_trans hs (by simpa using h3.size)⟩
      go_wp2_with fail
      go_region_with (go_at_call 54; refine HC.out.mono ?_; rintro e w4 ⟨rfl, hb4⟩; obtain ⟨hB4, hX4, hE4, s4⟩ := HW.out w4 hb4; have HB4 := Lib.hid hB4; have HX4 := Lib.hid hX4; clear x0 x1 hb4 hX4; obtain ⟨x0, x1, -, -⟩ := two_cells HX4.out; have c1 := hB4.cell (i := x) (by rw [part_length _ _ (by rw [HLN.out]; exact hx), HLN.out]; exact hlt); have f1 := hB4.frozen x; clear hB4)
      all_goals
        have HB5 : Hid (Blk (w4.setCell ⟨g, x, none⟩ (.int .i64 ((bitsN (proF 0 p x js) n : Nat) : Int))) g (part (proR 0 p js) (x + 1))) := by
          have t := HB4.out.set x (el (proR 0 p js) x)
          rw [part_succ _ _ (by rw [HLN.out]; exact hlt), HEL.out x hlt] at t
          exact t
        have HX5 : Hid ((w4.setCell ⟨g, x, none⟩ (.int .i64 ((bitsN (proF 0 p x js) n : Nat) : Int))).heap[bx]? = some (.cells #[.int .i64 n, .slice (some ⟨g, 0, none⟩) n n] 36 (0, 0))) := (Below.heap_setCell w4 ⟨g, x, none⟩ _ bx (by show bx ≠ g; omega)).trans HX4.out
        have hE5 := hE4.setCell (p := ⟨g, x, none⟩) (by simp; omega) (.int .i64 ((bitsN (proF 0 p x js) n : Nat) : Int))
        clear hE4 HB4 HX4 x0 x1 c1 f1 HW HC hE HB HX
        go_wp2_with fail
        go_roundw
        case rel => exact ⟨x + 1, by omega, by go_num, HB5, HX5, hE5, by simpa using s4⟩
        case measure => simp [intOf]; omega
    · obtain rfl : x = n := by omega
      have RB := Lib.hid ((hE.block w.heap.size (by omega)).trans HH.out)
      obtain ⟨r0, r1, k0, k1⟩ := two_cells RB.out
      obtain ⟨x0, x1, -, -⟩ := two_cells HX.out
      have HBF : Hid (Blk wr g (proR 0 p js)) := by
        have := HB.out
        have e : part (proR 0 p js) x = proR 0 p js := by rw [← HLN.out, part_all]
        rw [e] at this; exact this
      go_wp2_with fail
      have hfin := two_set (a := .int .i64 x) (b := .slice (some ⟨g, 0, none⟩) x x) RB.out
      refine bodyPost_ret (v := .agg #[.int .i64 x, .slice (some ⟨g, 0, none⟩) x x]) (results_cell_row (p := 4) (ty := 36) rfl _ _ w.heap.size 36 _ (0, 0) _ rfl hfin Tryd.underlying36 rfl (by exact info27)) rfl ⟨⟨_, rfl, ?_, by omega⟩, ?_⟩
      · exact (HBF.out.other (by simp; omega) _).other (by simp; omega) _
      · exact ((D0.trans (hE.mono (by omega))).setCell (p := ⟨w.heap.size, 0, none⟩) (by simp) _).setCell (p := ⟨w.heap.size, 1, none⟩) (by simp) _
set_option maxHeartbeats 3200000 in
set_option maxRecDepth 100000 in
theorem graphOf_1 (p : Nat) (v : Value) (js : List Int) (w : World) (h : gOk 1 p = true) (hj : elOk (gOrd 1 p) js js.length = true) (hs : Sl w v js) (hl : js.length ≤ 9223372036854775807) :
    Calls Tryd.prog 39 #[gIf 1 p, v] w fun e w' => GRet w.heap.size (gOrd 1 p) (proR 1 p js) e w' ∧ Below w.heap.size w w' := by
  have D0 : Below w.heap.size w (w.alloc (.cells #[.int .i64 0, .slice none 0 0] 36)) := (Below.refl _ _).alloc (Nat.le_refl _) _
  have HH := Lib.hid (World.alloc_heap_new w (.cells #[.int .i64 0, .slice none 0 0] 36))
  have hord := order_1 p (w.alloc (.cells #[.int .i64 0, .slice none 0 0] 36)) h
  have HPW := Lib.hid (fun x W (hx : x < gOrd 1 p) (hsw : Sl W v js) => productsWith_1s p x v js W h hx hj hsw hl)
  have hle := gOrd_le h
  have HS := Lib.hid hs
  have HLN := Lib.hid (proR_length 1 p js)
  have HEL := Lib.hid (proR_el 1 p js)
  obtain ⟨n, hn⟩ : ∃ n, n = gOrd 1 p := ⟨_, rfl⟩
  rw [← hn] at hord HPW hle HLN HEL ⊢
  have hem := fun W => implEmpty_any n W (by omega)
  simp only [World.size_alloc] at hord
  clear hs hj h hn
  unfold gIf at *
  go_enter Tryd.func39, Tryd.ntmps39
  go_wp2_with fail
  refine hord.mono ?_
  rintro e w1 ⟨rfl, hb1⟩
  have s1 := hb1.size
  simp only [World.size_alloc] at s1
  clear hord
  go_wp2_with fail
  refine (hem _).mono ?_
  rintro e w2 ⟨rfl, hB2, hb2⟩
  have HB2 := Lib.hid hB2
  have s2 := hb2.size
  have l2 := hB2.lt
  have E2 := hb1.trans (hb2.mono s1)
  clear hb1 hb2 hB2 hem
  go_wp2_with fail
  obtain ⟨g, hg⟩ : ∃ g, g = w1.heap.size + 1 := ⟨_, rfl⟩
  obtain ⟨w3, h3⟩ : ∃ w3, w3 = w2.alloc (.cells #[.int .i64 n, .slice (some ⟨w1.heap.size + 1, 0, none⟩) n n] 36) := ⟨_, rfl⟩
  have X3 : Hid (w3.heap[w2.heap.size]? = some (.cells #[.int .i64 n, .slice (some ⟨g, 0, none⟩) n n] 36 (0, 0))) := by rw [h3, hg]; exact World.alloc_heap_new w2 _
  have hb3 : Below w2.heap.size w2 w3 := by rw [h3]; exact (Below.refl _ _).alloc (Nat.le_refl _) _
  have s3 : w2.heap.size + 1 ≤ w3.heap.size := (Array.getElem?_eq_some_iff.1 X3.out).1
  rw [← h3]
  rw [← hg] at HB2 l2 ⊢
  have HB3 : Hid (Blk w3 g (part (proR 1 p js) 0)) := by show Blk _ _ _; rw [part_zero, HLN.out]; exact HB2.out.belowAll hb3
  have E3 := E2.trans (hb3.mono (by omega))
  have g1 : w.heap.size + 2 ≤ g := by omega
  obtain ⟨bx, hbx⟩ : ∃ bx, bx = w2.heap.size := ⟨_, rfl⟩
  rw [← hbx] at X3 s3 l2 ⊢
  clear h3 hb3 HB2 E2 hg hbx s1 s2
  go_loopw [13] (fun i wr => ∃ x : Nat, x ≤ n ∧ i = .int .i64 x ∧ Hid (Blk wr g (part (proR 1 p js) x)) ∧ Hid (wr.heap[bx]? = some (.cells #[.int .i64 n, .slice (some ⟨g, 0, none⟩) n n] 36 (0, 0))) ∧ Below (w.heap.size + 1) (w.alloc (.cells #[.int .i64 0, .slice none 0 0] 36)) wr ∧ bx + 1 ≤ wr.heap.size) (fun i _ => n - (intOf i).toNat)
  case atStart => exact ⟨0, Nat.zero_le _, rfl, HB3, X3, E3, s3⟩
  case round =>
    obtain ⟨x, hx, rfl, HB, HX, hE, hs⟩ := hrel
    by_cases hlt : x < n
    · obtain ⟨x0, x1, -, -⟩ := two_cells HX.out
      have hxn : (x : Int) < n := by omega
      have hx0 : (0 : Int) ≤ x := by omega
      have HC := Lib.hid (HPW.out x wr.drew hlt (HS.out.below ((D0.trans (hE.mono (by omega))).drew)))
      have HW : Hid (∀ w3 : World, Below wr.drew.heap.size wr.drew w3 → Blk w3 g (part (proR 1 p js) x) ∧ w3.heap[bx]? = some (.cells #[.int .i64 n, .slice (some ⟨g, 0, none⟩) n n] 36 (0, 0)) ∧ Below (w.heap.size + 1) (w.alloc (.cells #[.int .i64 0, .slice none 0 0] 36)) w3 ∧ bx + 1 ≤ w3.heap.size) := fun w3 h3 =>
        ⟨(h3.block g (by simp; omega)).trans HB.out, (h3.block bx (by simp; omega)).trans HX.out, hE.drew.trans (h3.mono (by simp; omega)), Nat.le_trans hs (by simpa using h3.size)⟩
      go_wp2_with fail
      go_region_with (go_at_call 54; refine HC.out.mono ?_; rintro e w4 ⟨rfl, hb4⟩; obtain ⟨hB4, hX4, hE4, s4⟩ := HW.out w4 hb4; have HB4 := Lib.hid hB4; have HX4 := Lib.hid hX4; clear x0 x1 hb4 hX4; obtain ⟨x0, x1, -, -⟩ := two_cells HX4.out; have c1 := hB4.cell (i := x) (by rw [part_length _ _ (by rw [HLN.out]; exact hx), HLN.out]; exact hlt); have f1 := hB4.frozen x; clear hB4)
      all_goals
        have HB5 : Hid (Blk (w4.setCell ⟨g, x, none⟩ (.int .i64 ((bitsN (proF 1 p x js) n : Nat) : Int))) g (part (proR 1 p js) (x + 1))) := by
          have t := HB4.out.set x (el (proR 1 p js) x)
          rw [part_succ _ _ (by rw [HLN.out]; exact hlt), HEL.out x hlt] at t
          exact t
        have HX5 : Hid ((w4.setCell ⟨g, x, none⟩ (.int .i64 ((bitsN (proF 1 p x js) n : Nat) : Int))).heap[bx]? = some (.cells #[.int .i64 n, .slice (some ⟨g, 0, none⟩) n n] 36 (0, 0))) := (Below.heap_setCell w4 ⟨g, x, none⟩ _ bx (by show bx ≠ g; omega)).trans HX4.out
        have hE5 := hE4.setCell (p := ⟨g, x, none⟩) (by simp; omega) (.int .i64 ((bitsN (proF 1 p x js) n : Nat) : Int))
        clear hE4 HB4 HX4 x0 x1 c1 f1 HW HC hE HB HX
        go_wp2_with fail
        go_roundw
        case rel => exact ⟨x + 1, by omega, by go_num, HB5, HX5, hE5, by simpa using s4⟩
        case measure => simp [intOf]; omega
    · obtain rfl : x = n := by omega
      have RB := Lib.hid ((hE.block w.heap.size (by omega)).trans HH.out)
      obtain ⟨r0, r1, k0, k1⟩ := two_cells RB.out
      obtain ⟨x0, x1, -, -⟩ := two_cells HX.out
      have HBF : Hid (Blk wr g (proR 1 p js)) := by
        have := HB.out
        have e : part (proR 1 p js) x = proR 1 p js := by rw [← HLN.out, part_all]
        rw [e] at this; exact this
      go_wp2_with fail
      have hfin := two_set (a := .int .i64 x) (b := .slice (some ⟨g, 0, none⟩) x x) RB.out
      refine bodyPost_ret (v := .agg #[.int .i64 x, .slice (some ⟨g, 0, none⟩) x x]) (results_cell_row (p := 4) (ty := 36) rfl _ _ w.heap.size 36 _ (0, 0) _ rfl hfin Tryd.underlying36 rfl (by exact info27)) rfl ⟨⟨_, rfl, ?_, by omega⟩, ?_⟩
      · exact (HBF.out.other (by simp; omega) _).other (by simp; omega) _
      · exact ((D0.trans (hE.mono (by omega))).setCell (p := ⟨w.heap.size, 0, none⟩) (by simp) _).setCell (p := ⟨w.heap.size, 1, none⟩) (by simp) _
set_option maxHeartbeats 3200000 in
set_option maxRecDepth 100000 in
theorem graphOf_2 (p : Nat) (v : Value) (js : List Int) (w : World) (h : gOk 2 p = true) (hj : elOk (gOrd 2 p) js js.length = true) (hs : Sl w v js) (hl : js.length ≤ 9223372036854775807) :
    Calls Tryd.prog 39 #[gIf 2 p, v] w fun e w' => GRet w.heap.size (gOrd 2 p) (proR 2 p js) e w' ∧ Below w.heap.size w w' := by
  have D0 : Below w.heap.size w (w.alloc (.cells #[.int .i64 0, .slice none 0 0] 36)) := (Below.refl _ _).alloc (Nat.le_refl _) _
  have HH := Lib.hid (World.alloc_heap_new w (.cells #[.int .i64 0, .slice none 0 0] 36))
  have hord := order_2 p (w.alloc (.cells #[.int .i64 0, .slice none 0 0] 36)) h
  have HPW := Lib.hid (fun x W (hx : x < gOrd 2 p) (hsw : Sl W v js) => productsWith_2s p x v js W h hx hj hsw hl)
  have hle := gOrd_le h
  have HS := Lib.hid hs
  have HLN := Lib.hid (proR_length 2 p js)
  have HEL := Lib.hid (proR_el 2 p js)
  obtain ⟨n, hn⟩ : ∃ n, n = gOrd 2 p := ⟨_, rfl⟩
  rw [← hn] at hord HPW hle HLN HEL ⊢
  have hem := fun W => implEmpty_any n W (by omega)
  simp only [World.size_alloc] at hord
  clear hs hj h hn
  unfold gIf at *
  go_enter Tryd.func39, Tryd.ntmps39
  go_wp2_with fail
  refine hord.mono ?_
  rintro e w1 ⟨rfl, hb1⟩
  have s1 := hb1.size
  simp only [World.size_alloc] at s1
  clear hord
  go_wp2_with fail
  refine (hem _).mono ?_
  rintro e w2 ⟨rfl, hB2, hb2⟩
  have HB2 := Lib.hid hB2
  have s2 := hb2.size
  have l2 := hB2.lt
  have E2 := hb1.trans (hb2.mono s1)
  clear hb1 hb2 hB2 hem
  go_wp2_with fail
  obtain ⟨g, hg⟩ : ∃ g, g = w1.heap.size + 1 := ⟨_, rfl⟩
  obtain ⟨w3, h3⟩ : ∃ w3, w3 = w2.alloc (.cells #[.int .i64 n, .slice (some ⟨w1.heap.size + 1, 0, none⟩) n n] 36) := ⟨_, rfl⟩
  have X3 : Hid (w3.heap[w2.heap.size]? = some (.cells #[.int .i64 n, .slice (some ⟨g, 0, none⟩) n n] 36 (0, 0))) := by rw [h3, hg]; exact World.alloc_heap_new w2 _
  have hb3 : Below w2.heap.size w2 w3 := by rw [h3]; exact (Below.refl _ _).alloc (Nat.le_refl _) _
  have s3 : w2.heap.size + 1 ≤ w3.heap.size := (Array.getElem?_eq_some_iff.1 X3.out).1
  rw [← h3]
  rw [← hg] at HB2 l2 ⊢
  have HB3 : Hid (Blk w3 g (part (proR 2 p js) 0)) := by show Blk _ _ _; rw [part_zero, HLN.out]; exact HB2.out.belowAll hb3
  have E3 := E2.trans (hb3.mono (by omega))
  have g1 : w.heap.size + 2 ≤ g := by omega
  obtain ⟨bx, hbx⟩ : ∃ bx, bx = w2.heap.size := ⟨_, rfl⟩
  rw [← hbx] at X3 s3 l2 ⊢
  clear h3 hb3 HB2 E2 hg hbx s1 s2
  go_loopw [13] (fun i wr => ∃ x : Nat, x ≤ n ∧ i = .int .i64 x ∧ Hid (Blk wr g (part (proR 2 p js) x)) ∧ Hid (wr.heap[bx]? = some (.cells #[.int .i64 n, .slice (some ⟨g, 0, none⟩) n n] 36 (0, 0))) ∧ Below (w.heap.size + 1) (w.alloc (.cells #[.int .i64 0, .slice none 0 0] 36)) wr ∧ bx + 1 ≤ wr.heap.size) (fun i _ => n - (intOf i).toNat)
  case atStart => exact ⟨0, Nat.zero_le _, rfl, HB3, X3, E3, s3⟩
  case round =>
    obtain ⟨x, hx, rfl, HB, HX, hE, hs⟩ := hrel
    by_cases hlt : x < n
    · obtain ⟨x0, x1, -, -⟩ := two_cells HX.out
      have hxn : (x : Int) < n := by omega
      have hx0 : (0 : Int) ≤ x := by omega
      have HC := Lib.hid (HPW.out x wr.drew hlt (HS.out.below ((D0.trans (hE.mono (by omega))).drew)))
      have HW : Hid (∀ w3 : World, Below wr.drew.heap.size wr.drew w3 → Blk w3 g (part (proR 2 p js) x) ∧ w3.heap[bx]? = some (.cells #[.int .i64 n, .slice (some ⟨g, 0, none⟩) n n] 36 (0, 0)) ∧ Below (w.heap.size + 1) (w.alloc (.cells #[.int .i64 0, .slice none 0 0] 36)) w3 ∧ bx + 1 ≤ w3.heap.size) := fun w3 h3 =>
        ⟨(h3.block g (by simp; omega)).trans HB.out, (h3.block bx (by simp; omega)).trans HX.out, hE.drew.trans (h3.mono (by simp; omega)), Nat.le_trans hs (by simpa using h3.size)⟩
      go_wp2_with fail
      go_region_with (go_at_call 54; refine HC.out.mono ?_; rintro e w4 ⟨rfl, hb4⟩; obtain ⟨hB4, hX4, hE4, s4⟩ := HW.out w4 hb4; have HB4 := Lib.hid hB4; have HX4 := Lib.hid hX4; clear x0 x1 hb4 hX4; obtain ⟨x0, x1, -, -⟩ := two_cells HX4.out; have c1 := hB4.cell (i := x) (by rw [part_length _ _ (by rw [HLN.out]; exact hx), HLN.out]; exact hlt); have f1 := hB4.frozen x; clear hB4)
      all_goals
        have HB5 : Hid (Blk (w4.setCell ⟨g, x, none⟩ (.int .i64 ((bitsN (proF 2 p x js) n : Nat) : Int))) g (part (proR 2 p js) (x + 1))) := by
          have t := HB4.out.set x (el (proR 2 p js) x)
          rw [part_succ _ _ (by rw [HLN.out]; exact hlt), HEL.out x hlt] at t
          exact t
        have HX5 : Hid ((w4.setCell ⟨g, x, none⟩ (.int .i64 ((bitsN (proF 2 p x js) n : Nat) : Int))).heap[bx]? = some (.cells #[.int .i64 n, .slice (some ⟨g, 0, none⟩) n n] 36 (0, 0))) := (Below.heap_setCell w4 ⟨g, x, none⟩ _ bx (by show bx ≠ g; omega)).trans HX4.out
        have hE5 := hE4.setCell (p := ⟨g, x, none⟩) (by simp; omega) (.int .i64 ((bitsN (proF 2 p x js) n : Nat) : Int))
        clear hE4 HB4 HX4 x0 x1 c1 f1 HW HC hE HB HX
        go_wp2_with fail
        go_roundw
        case rel => exact ⟨x + 1, by omega, by go_num, HB5, HX5, hE5, by simpa using s4⟩
        case measure => simp [intOf]; omega
    · obtain rfl : x = n := by omega
      have RB := Lib.hid ((hE.block w.heap.size (by omega)).trans HH.out)
      obtain ⟨r0, r1, k0, k1⟩ := two_cells RB.out
      obtain ⟨x0, x1, -, -⟩ := two_cells HX.out
      have HBF : Hid (Blk wr g (proR 2 p js)) := by
        have := HB.out
        have e : part (proR 2 p js) x = proR 2 p js := by rw [← HLN.out, part_all]
        rw [e] at this; exact this
      go_wp2_with fail
      have hfin := two_set (a := .int .i64 x) (b := .slice (some ⟨g, 0, none⟩) x x) RB.out
      refine bodyPost_ret (v := .agg #[.int .i64 x, .slice (some ⟨g, 0, none⟩) x x]) (results_cell_row (p := 4) (ty := 36) rfl _ _ w.heap.size 36 _ (0, 0) _ rfl hfin Tryd.underlying36 rfl (by exact info27)) rfl ⟨⟨_, rfl, ?_, by omega⟩, ?_⟩
      · exact (HBF.out.other (by simp; omega) _).other (by simp; omega) _
      · exact ((D0.trans (hE.mono (by omega))).setCell (p := ⟨w.heap.size, 0, none⟩) (by simp) _).setCell (p := ⟨w.heap.size, 1, none⟩) (by simp) _
end Go.Proofs.YtklgimikdnokcaaDoor
