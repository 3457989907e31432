/-
  spec.l05Cayley. (A tied seat.)
-/
import Derived.Test.YtklgimikdnokcaaDoorPt
import Derived.Test.YtklgimikdnokcaaDoorKn
namespace Go.Proofs.YtklgimikdnokcaaDoor
set_option maxRecDepth 100000
open Go.RowKit

set_option maxHeartbeats 6400000 in
set_option maxRecDepth 100000 in
theorem l05Cayley_near (k p cap : Nat) (a : Option Addr) (js : List Int) (w : World) (h : gOk k p = true) (hj : elOk (gOrd k p) js js.length = true) (hc : js.length = 0 ∨ ∃ b off, a = some ⟨b, off, none⟩ ∧ b < w.heap.size ∧ Cells w b off js) (hl : js.length ≤ 9223372036854775807) :
    Calls Tryd.prog 37 #[gv k p, .slice a js.length cap] w fun e w' => GRet w.heap.size (gOrd k p) (rowsF (gOrd k p) (adjS (cayS k p js (gOrd k p)))) e w' ∧ Below w.heap.size w w' := by
  obtain ⟨W, hW⟩ : ∃ W, W = (w.alloc (.cells #[.int .i64 k, .int .i64 p] 27)).alloc (.cells #[.int .i64 0, .slice none 0 0] 36) := ⟨_, rfl⟩
  have D0 : Below w.heap.size w W := by rw [hW]; exact ((Below.refl _ _).alloc (Nat.le_refl _) _).alloc (by simp) _
  have HB0 : Hid (W.heap[w.heap.size]? = some (.cells #[.int .i64 k, .int .i64 p] 27 (0, 0))) := by rw [hW]; exact heap_old_at (World.alloc_heap_new w _) _
  have HH : Hid (W.heap[w.heap.size + 1]? = some (.cells #[.int .i64 0, .slice none 0 0] 36 (0, 0))) := by rw [hW]; exact heap_new_at _ _ _ (by simp)
  have hsz : w.heap.size + 2 ≤ W.heap.size := by rw [hW]; simp
  have ho := Lib.hid (l05Order_any k p W h)
  have HT := Lib.hid (fun x y W (hx : x < gOrd k p) (hy : y < gOrd k p) => l05Times_any k p x y W h hx hy)
  have HML := Lib.hid (fun x y => @gMul_lt k p x y h)
  have HJ := Lib.hid hj
  have HC := Lib.hid hc
  have hn := gOrd_le h
  obtain ⟨n, hnn⟩ : ∃ n, n = gOrd k p := ⟨_, rfl⟩
  rw [← hnn] at ho HT HML HJ hn ⊢
  have hem := Lib.hid (fun W => specEmpty_any n W (by omega))
  clear hj hc hnn h
  simp only [gv] at *
  obtain ⟨r0, r1, -, -⟩ := two_cells HB0.out
  rw [hW] at r0 r1
  go_enter Tryd.func37, Tryd.ntmps37
  go_wp2_with fail
  rw [← hW]
  clear hW r0 r1
  refine ho.out.mono ?_
  rintro e w1 ⟨rfl, hb1⟩
  have s1 := hb1.size
  go_wp2_with fail
  refine (hem.out w1).mono ?_
  rintro e w2 ⟨rfl, hB2, hb2⟩
  have HB2 := Lib.hid hB2
  have s2 := hb2.size
  have l2 := hB2.lt
  have E2 : Below W.heap.size W w2 := hb1.trans (hb2.mono s1)
  clear hb1 hb2 hB2 hem ho
  go_wp2_with fail
  obtain ⟨g, hg⟩ : ∃ g, g = w1.heap.size + 1 := ⟨_, rfl⟩
  obtain ⟨w3, h3⟩ : ∃ w3, w3 = w2.alloc (.cells #[.int .i64 n, .slice (some ⟨w1.heap.size + 1, 0, none⟩) n n] 36) := ⟨_, rfl⟩
  have X3 : Hid (w3.heap[w2.heap.size]? = some (.cells #[.int .i64 n, .slice (some ⟨g, 0, none⟩) n n] 36 (0, 0))) := by rw [h3, hg]; exact World.alloc_heap_new w2 _
  have hb3 : Below w2.heap.size w2 w3 := by rw [h3]; exact (Below.refl _ _).alloc (Nat.le_refl _) _
  have s3 : w2.heap.size + 1 ≤ w3.heap.size := (Array.getElem?_eq_some_iff.1 X3.out).1
  rw [← h3]
  rw [← hg] at HB2 l2 ⊢
  have HB3 : Hid (Blk w3 g (rowsF n (adjS (cayS k p js 0)))) := by show Blk _ _ _; rw [show adjS (cayS k p js 0) = fun _ _ => false from rfl, rowsF_none]; exact HB2.out.belowAll hb3
  have E3 : Below W.heap.size W w3 := E2.trans (hb3.mono (by omega))
  have g1 : W.heap.size + 1 ≤ g := by omega
  obtain ⟨bx, hbx⟩ : ∃ bx, bx = w2.heap.size := ⟨_, rfl⟩
  rw [← hbx] at X3 s3 l2 ⊢
  clear h3 hb3 HB2 E2 hg hbx s1 s2
  go_loopw [6] (fun i wr => ∃ x : Nat, x ≤ n ∧ i = .int .i64 x ∧ Hid (Blk wr g (rowsF n (adjS (cayS k p js x)))) ∧ Hid (wr.heap[bx]? = some (.cells #[.int .i64 n, .slice (some ⟨g, 0, none⟩) n n] 36 (0, 0))) ∧ Below W.heap.size W wr ∧ bx + 1 ≤ wr.heap.size) (fun i _ => n - (intOf i).toNat)
  case atStart => exact ⟨0, Nat.zero_le _, rfl, HB3, X3, E3, s3⟩
  case round =>
    obtain ⟨x, hx, rfl, HB, HX, hE, hs⟩ := hrel
    obtain ⟨x0, x1, -, -⟩ := two_cells HX.out
    by_cases hlx : x < n
    · go_wp2_with fail
      obtain ⟨wo, rfl⟩ : ∃ wo : World, wo = wr := ⟨_, rfl⟩
      have HBI : Hid (Blk wo g (rowsF n (adjS (cayS k p js x ++ cayR k p js x 0)))) := by show Blk _ _ _; rw [show cayS k p js x ++ cayR k p js x 0 = cayS k p js x by simp [cayR]]; exact HB.out
      clear x0 x1
      go_loopw [7] (fun i wr => ∃ t : Nat, t ≤ js.length ∧ i = .int .i64 t ∧ Hid (Blk wr g (rowsF n (adjS (cayS k p js x ++ cayR k p js x t)))) ∧ Hid (wr.heap[bx]? = some (.cells #[.int .i64 n, .slice (some ⟨g, 0, none⟩) n n] 36 (0, 0))) ∧ Below W.heap.size W wr ∧ bx + 1 ≤ wr.heap.size) (fun i _ => js.length - (intOf i).toNat)
      case atStart => exact ⟨0, Nat.zero_le _, rfl, HBI, HX, hE, hs⟩
      case round =>
        obtain ⟨t, ht, rfl, HQ, HY, hF, hu⟩ := hrel
        by_cases hlt2 : (t : Int) < js.length
        · have htl : t < js.length := by omega
          obtain ⟨b, off, rfl, hb, hcc⟩ : ∃ b off, a = some ⟨b, off, none⟩ ∧ b < w.heap.size ∧ Cells w b off js := by rcases HC.out with h | h <;> first | omega | exact h
          have hz : wr.cell? ⟨b, off + t, none⟩ = some (.int .i64 (el js t)) := (hF.cell (p := ⟨b, off + t, none⟩) (by simp; omega)).trans ((D0.cell (p := ⟨b, off + t, none⟩) hb).trans (hcc t htl))
          have ht0 : (0 : Int) ≤ t := by omega
          have he := elOk_at HJ.out htl
          obtain ⟨y, hy⟩ := Int.eq_ofNat_of_zero_le he.1
          rw [hy] at hz he
          have hyn : y < n := by omega
          have HSU : Hid (cayS k p js x ++ cayR k p js x (t + 1) = (cayS k p js x ++ cayR k p js x t) ++ [(x, gMul k p x y)]) := by show _ = _; rw [cayR, hy, Int.toNat_natCast, List.append_assoc]
          have htm := HT.out x y wr.drew hlx hyn
          have hml := HML.out x y
          obtain ⟨m, hm⟩ : ∃ m, m = gMul k p x y := ⟨_, rfl⟩
          rw [← hm] at HSU htm hml
          have HTM := Lib.hid htm
          have HJ1 := Lib.hid (fun W1 h => put_at n g n (cayS k p js x ++ cayR k p js x t) x m (x : Int) (m : Int) W1 h hlx hml hn rfl rfl)
          clear hcc hy he hm htm
          obtain ⟨x0, x1, -, -⟩ := two_cells HY.out
          obtain ⟨r0, r1, -, -⟩ := two_cells ((hF.block w.heap.size (by omega)).trans HB0.out)
          have HW1 : Hid (∀ w4 : World, Below wr.drew.heap.size wr.drew w4 → Blk w4 g (rowsF n (adjS (cayS k p js x ++ cayR k p js x t))) ∧ w4.heap[bx]? = some (.cells #[.int .i64 n, .slice (some ⟨g, 0, none⟩) n n] 36 (0, 0)) ∧ Below W.heap.size W w4 ∧ bx + 1 ≤ w4.heap.size) := fun w4 h4 =>
            ⟨(h4.block g (by simp; omega)).trans HQ.out, (h4.block bx (by simp; omega)).trans HY.out, hF.drew.trans (h4.mono (by simp; omega)), Nat.le_trans hu (by simpa using h4.size)⟩
          have HW2 : Hid (∀ w4 w5 : World, w4.heap[bx]? = some (.cells #[.int .i64 n, .slice (some ⟨g, 0, none⟩) n n] 36 (0, 0)) → Below W.heap.size W w4 → bx + 1 ≤ w4.heap.size → w4.grownBy w5 (some g) → w5.heap[bx]? = some (.cells #[.int .i64 n, .slice (some ⟨g, 0, none⟩) n n] 36 (0, 0)) ∧ Below W.heap.size W w5 ∧ bx + 1 ≤ w5.heap.size) := fun w4 w5 h1 h2 h3 h =>
            ⟨(h.block bx h3 (by simp; omega)).trans h1, h2.grown h (by omega) (fun j e => by cases e; omega), Nat.le_trans h3 h.size⟩
          go_wp2_with fail
          go_region_with (first
            | (go_at_call 41; with_reducible refine HTM.out.mono ?_; rintro e w4 ⟨rfl, hb4⟩; obtain ⟨hB4, hY4, hE4, hu4⟩ := HW1.out w4 hb4; have HB4 := Lib.hid hB4; have HY4 := Lib.hid hY4; clear hb4 hB4 hY4 x0 x1; obtain ⟨x0, x1, -, -⟩ := two_cells HY4.out)
            | (go_at_call 58; with_reducible refine (HJ1.out w4 HB4.out).mono ?_; rintro e w5 ⟨⟨v5, rfl⟩, hB5, hg5⟩; have HB5 := Lib.hid hB5; obtain ⟨hY5, hE5, hu5⟩ := HW2.out w4 w5 HY4.out hE4 hu4 hg5; have HY5 := Lib.hid hY5; clear x0 x1 hB5 hg5 hY5))
          all_goals clear HW1 HW2 HY HQ hF HJ1 HTM hz r0 r1 HB4 HY4 hE4 hu4
          all_goals
            have HB6 : Hid (Blk w5 g (rowsF n (adjS (cayS k p js x ++ cayR k p js x (t + 1))))) := by show Blk _ _ _; rw [HSU.out]; exact HB5.out
            go_wp2_with fail
            go_roundw
            case rel => exact ⟨t + 1, by omega, by go_num, HB6, HY5, hE5, hu5⟩
            case measure => simp [intOf]; omega
        · obtain rfl : t = js.length := by omega
          go_wp2_with fail
          go_roundw
          case rel => exact ⟨x + 1, by omega, by go_num, HQ, HY, hF, hu⟩
          case measure => simp [intOf]; omega
    · obtain rfl : x = n := by omega
      have RB := Lib.hid ((hE.block (w.heap.size + 1) (by omega)).trans HH.out)
      obtain ⟨q0, q1, k0, k1⟩ := two_cells RB.out
      go_wp2_with fail
      have hfin := two_set (a := .int .i64 x) (b := .slice (some ⟨g, 0, none⟩) x x) RB.out
      refine bodyPost_ret (v := .agg #[.int .i64 x, .slice (some ⟨g, 0, none⟩) x x]) (results_cell_row (p := 4) (ty := 36) rfl _ _ (w.heap.size + 1) 36 _ (0, 0) _ rfl hfin Tryd.underlying36 rfl (by exact info27)) rfl ⟨⟨_, rfl, ?_, by omega⟩, ?_⟩
      · exact (HB.out.other (by simp; omega) _).other (by simp; omega) _
      · exact ((D0.trans (hE.mono (by omega))).setCell (p := ⟨w.heap.size + 1, 0, none⟩) (by simp) _).setCell (p := ⟨w.heap.size + 1, 1, none⟩) (by simp) _

theorem l05Cayley_any (k p : Nat) (v : Value) (js : List Int) (w : World) (h : gOk k p = true) (hj : elOk (gOrd k p) js js.length = true) (hs : Sl w v js) (hl : js.length ≤ 9223372036854775807) :
    Calls Tryd.prog 37 #[gv k p, v] w fun e w' => GRet w.heap.size (gOrd k p) (rowsF (gOrd k p) (adjS (cayS k p js (gOrd k p)))) e w' ∧ Below w.heap.size w w' := by
  rcases hs with ⟨a, c, rfl, rfl⟩ | ⟨b, off, cap, rfl, hb, hc⟩
  · exact l05Cayley_near k p c a [] w h hj (.inl rfl) (by simp)
  · exact l05Cayley_near k p cap _ js w h hj (.inr ⟨b, off, rfl, hb, hc⟩) hl
end Go.Proofs.YtklgimikdnokcaaDoor
