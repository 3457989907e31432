/-
  spec.l01Put, spec.l01Jumps. (gen: mk_ngs.py)
-/
import Derived.Test.YtonfcmngokmgpaaNgi
import Derived.Deep.RegionWith
namespace Go.Proofs.Ytonfcmngokmgpaa
set_option maxRecDepth 100000
open Go.RowKit

set_option maxHeartbeats 1600000 in
theorem put_some (N : Int) (g m : Nat) (L : List Int) (a b : Nat) (w : World) (hm : L.length = m) (h : Blk w g L) (ha : a < m) (hb : b < m) (hl : m ≤ 62) (hz : ∀ i, i < m → 0 ≤ el L i ∧ el L i ≤ 2 ^ m - 1) :
    Calls Try.prog 27 #[.agg #[.int .i64 N, .slice (some ⟨g, 0, none⟩) m m], .int .i64 a, .int .i64 b] w fun e w' => (∃ v, e = .returned v) ∧ Blk w' g (putL L a b) ∧ w.grownBy w' (some g) := by
  obtain ⟨W, hW⟩ : ∃ W, W = w.alloc (.cells #[.int .i64 N, .slice (some ⟨g, 0, none⟩) m m] 24) := ⟨_, rfl⟩
  have HH : Hid (W.heap[w.heap.size]? = some (.cells #[.int .i64 N, .slice (some ⟨g, 0, none⟩) m m] 24 (0, 0))) := by rw [hW]; exact World.alloc_heap_new w _
  have HO : Hid (Blk W g L) := by rw [hW]; exact h.alloc _
  have HGr : Hid (w.grownBy W (some g)) := by rw [hW]; exact World.grownBy_alloc w _ _
  have hgl := h.lt
  have pm := pow_bounds m hl
  have hza := hz a ha
  have hL1 : (put1 L a b).length = m := by rw [put1_length]; exact hm
  have hzb : 0 ≤ el (put1 L a b) b ∧ el (put1 L a b) b ≤ 2 ^ m - 1 := by
    unfold put1
    by_cases e : a = b
    · subst e; rw [el_set_same _ _ _ (by omega)]; exact por_ok _ _ _ hza.2 ha
    · rw [el_set_ne _ _ _ _ e]; exact hz b hb
  have P1 := Lib.hid (por_or (el L a) b hza.1 (by omega) (by omega))
  have P2 := Lib.hid (por_or (el (put1 L a b) b) a hzb.1 (by omega) (by omega))
  have HM := Lib.hid hm; have HL1 := Lib.hid hL1
  clear h hm hL1
  go_enter Try.func27, Try.ntmps27
  obtain ⟨b0, b1, -, -⟩ := two_cells HH.out
  have c1 := HO.out.cell (i := a) (by rw [HM.out]; exact ha)
  have f1 : W.frozen? ⟨g, a, none⟩ = false := HO.out.frozen a
  have ha0 : (0 : Int) ≤ a := by omega
  have hb0 : (0 : Int) ≤ b := by omega
  have ham : (a : Int) < m := by omega
  have hbm : (b : Int) < m := by omega
  have qa := pow_bounds a (by omega)
  have qb := pow_bounds b (by omega)
  go_wp2_with fail
  rw [← hW]
  clear hW
  go_region
  rw [P1.out]
  obtain ⟨W2, hW2⟩ : ∃ W2, W2 = (W.setCell ⟨g, a, none⟩ (.int .i64 (por (el L a) b))).drew := ⟨_, rfl⟩
  have HO2 : Hid (Blk W2 g (put1 L a b)) := by rw [hW2]; exact HO.out.set a _
  have HG2 : Hid (W.grownBy W2 (some g)) := by rw [hW2]; exact grown_trans (grown_set ⟨rfl, rfl, rfl, Nat.le_refl _, fun _ _ _ => rfl⟩ _ a _) (grown_drew _ _)
  have HH2 := Lib.hid ((HG2.out.block w.heap.size (Array.getElem?_eq_some_iff.1 HH.out).1 (by simp; omega)).trans HH.out)
  rw [← hW2]
  clear hW2 b0 b1 c1 f1
  obtain ⟨b0, b1, -, -⟩ := two_cells HH2.out
  have c2 := HO2.out.cell (i := b) (by rw [HL1.out]; exact hb)
  have f2 : W2.frozen? ⟨g, b, none⟩ = false := HO2.out.frozen b
  go_wp2_with fail
  go_region
  rw [P2.out]
  go_wp2
  go_end0
  refine ⟨⟨_, rfl⟩, ?_, ?_⟩
  · exact HO2.out.set b _
  · exact grown_trans HGr.out (grown_trans HG2.out (grown_trans (grown_set ⟨rfl, rfl, rfl, Nat.le_refl _, fun _ _ _ => rfl⟩ _ b _) (grown_drew _ _)))

theorem put_at (N : Int) (g m : Nat) (S : List (Nat × Nat)) (a b : Nat) (ai bi : Int) (w : World) (h : Blk w g (rowsF m (adjS S))) (ha : a < m) (hb : b < m) (hl : m ≤ 62) (ea : ai = (a : Int)) (eb : bi = (b : Int)) :
    Calls Try.prog 27 #[.agg #[.int .i64 N, .slice (some ⟨g, 0, none⟩) m m], .int .i64 ai, .int .i64 bi] w fun e w' => (∃ v, e = .returned v) ∧ Blk w' g (rowsF m (adjS (S ++ [(a, b)]))) ∧ w.grownBy w' (some g) := by
  subst ea; subst eb
  have := put_some N g m _ a b w (rowsF_length _ _) h ha hb hl (fun i hi => rowsF_bd m _ i hi)
  rw [rows_snoc m S a b ha hb] at this
  exact this

set_option maxHeartbeats 3200000 in
set_option maxRecDepth 100000 in
theorem specJumps_some (n : Nat) (b off cap : Nat) (js : List Int) (w : World) (h3 : 3 ≤ n) (hn : n ≤ 62) (hb : b < w.heap.size) (hc : Cells w b off js) (h0 : 0 < js.length) (hjl : js.length ≤ 20) (hj : jumpsOk n js js.length = true) :
    Calls Try.prog 28 #[.int .i64 n, .slice (some ⟨b, off, none⟩) js.length cap] w fun e w' => GRet w.heap.size n (rowsF n (adjS (jumpS n js n))) e w' ∧ Below w.heap.size w w' := by
  have D0 : Below w.heap.size w (w.alloc (.cells #[.int .i64 0, .slice none 0 0] 24)) := (Below.refl _ _).alloc (Nat.le_refl _) _
  have hem := specEmpty_any n (w.alloc (.cells #[.int .i64 0, .slice none 0 0] 24)) (by omega)
  have HH := Lib.hid (World.alloc_heap_new w (.cells #[.int .i64 0, .slice none 0 0] 24))
  simp only [World.size_alloc] at hem
  have HC := Lib.hid hc; have HJ := Lib.hid hj
  clear hc hj
  go_enter Try.func28, Try.ntmps28
  go_wp2_with (go_at_call 25; refine hem.mono ?_; rintro e w1 ⟨rfl, hB1, hb1⟩; have HB1 := Lib.hid hB1; have Hb1 := Lib.hid hb1; clear hB1 hb1)
  have l1 := HB1.out.lt
  obtain ⟨w2, h2w⟩ : ∃ w2, w2 = w1.alloc (.cells #[.int .i64 n, .slice (some ⟨w.heap.size + 1 + 1, 0, none⟩) n n] 24) := ⟨_, rfl⟩
  have X2 : Hid (w2.heap[w1.heap.size]? = some (.cells #[.int .i64 n, .slice (some ⟨w.heap.size + 1 + 1, 0, none⟩) n n] 24 (0, 0))) := by rw [h2w]; exact World.alloc_heap_new w1 _
  have hb2 : Below w1.heap.size w1 w2 := by rw [h2w]; exact (Below.refl _ _).alloc (Nat.le_refl _) _
  rw [← h2w]
  clear h2w hem
  have HB2 : Hid (Blk w2 (w.heap.size + 1 + 1) (rowsF n (adjS (jumpS n js 0)))) := by show Blk _ _ _; rw [show adjS (jumpS n js 0) = fun _ _ => false from rfl, rowsF_none]; exact HB1.out.belowAll hb2
  have E2 : Below (w.heap.size + 1) (w.alloc (.cells #[.int .i64 0, .slice none 0 0] 24)) w2 := Hb1.out.trans (hb2.mono (by omega))
  have s2 : w1.heap.size + 1 ≤ w2.heap.size := (Array.getElem?_eq_some_iff.1 X2.out).1
  have HGW : Hid (w1.heap.size ≠ w.heap.size + 1 + 1) := by show _ ≠ _; omega
  clear hb2 HB1 Hb1
  go_loopw [6] (fun i wr => ∃ v : Nat, v ≤ n ∧ i = .int .i64 v ∧ Hid (Blk wr (w.heap.size + 1 + 1) (rowsF n (adjS (jumpS n js v)))) ∧ Hid (wr.heap[w1.heap.size]? = some (.cells #[.int .i64 n, .slice (some ⟨w.heap.size + 1 + 1, 0, none⟩) n n] 24 (0, 0))) ∧ Below (w.heap.size + 1) (w.alloc (.cells #[.int .i64 0, .slice none 0 0] 24)) wr ∧ w1.heap.size + 1 ≤ wr.heap.size) (fun i _ => n - (intOf i).toNat)
  case atStart => exact ⟨0, Nat.zero_le _, rfl, HB2, X2, E2, s2⟩
  case round =>
    obtain ⟨v, hv, rfl, HB, HX, hE, hs⟩ := hrel
    by_cases hlt : v < n
    · have m1 := Int.emod_nonneg ((v : Int) + 1) (b := (n : Int)) (by omega)
      have m2 := Int.emod_lt_of_pos ((v : Int) + 1) (b := (n : Int)) (by omega)
      have q1 := Nat.mod_lt (v + 1) (show n > 0 by omega)
      have E1 : Hid (((v : Int) + 1) % (n : Int) = (((v + 1) % n : Nat) : Int)) := by show _ = _; simp
      have HJ1 := Lib.hid (fun W1 h => put_at n (w.heap.size + 1 + 1) n (jumpS n js v) v ((v + 1) % n) (v : Int) (((v : Int) + 1) % (n : Int)) W1 h (by omega) (by omega) hn rfl E1.out)
      obtain ⟨x, hx⟩ : ∃ x, x = v % js.length := ⟨_, rfl⟩
      have hxl : x < js.length := by rw [hx]; exact Nat.mod_lt _ h0
      have hxi : ((v : Int) % (js.length : Int)) = (x : Int) := by rw [hx]; simp
      obtain ⟨j1, j2⟩ := jumpsOk_at HJ.out hxl
      obtain ⟨j, hj⟩ := Int.eq_ofNat_of_zero_le (show 0 ≤ el js x by omega)
      rw [hj] at j1 j2
      have m3 := Int.emod_nonneg ((v : Int) + j) (b := (n : Int)) (by omega)
      have m4 := Int.emod_lt_of_pos ((v : Int) + j) (b := (n : Int)) (by omega)
      have q2 := Nat.mod_lt (v + j) (show n > 0 by omega)
      have E2' : Hid (((v : Int) + j) % (n : Int) = (((v + j) % n : Nat) : Int)) := by show _ = _; simp
      have HJ2 := Lib.hid (fun W1 h => put_at n (w.heap.size + 1 + 1) n (jumpS n js v ++ [(v, (v + 1) % n)]) v ((v + j) % n) (v : Int) (((v : Int) + j) % (n : Int)) W1 h (by omega) (by omega) hn rfl E2'.out)
      have HSUC : Hid (jumpS n js (v + 1) = (jumpS n js v ++ [(v, (v + 1) % n)]) ++ [(v, (v + j) % n)]) := by show _ = _; rw [jumpS_some n js v h0, ← hx, hj]; rfl
      have hcb : wr.cell? ⟨b, off + x, none⟩ = some (.int .i64 j) := by
        have e1 := (hE.cell (p := ⟨b, off + x, none⟩) (by simp; omega)).trans ((D0.cell (p := ⟨b, off + x, none⟩) hb).trans (HC.out x hxl))
        rw [hj] at e1
        exact e1
      have HCB := Lib.hid hcb
      have HXI := Lib.hid hxi
      have hx0 : (0 : Int) ≤ x := by omega
      have hxl' : (x : Int) < js.length := by omega
      have hgt : (0 : Int) < js.length := by omega
      clear E2' q2 hj hx hxi hcb
      clear E1 q1
      obtain ⟨x0, x1, -, -⟩ := two_cells HX.out
      have hlwr : w1.heap.size < wr.heap.size := by omega
      have hsE := hE.size
      have HC1 := Lib.hid (fun (w3 : World) (h : wr.drew.grownBy w3 (some (w.heap.size + 1 + 1))) => (h.block w1.heap.size hlwr (by simp; exact HGW.out)).trans HX.out)
      have HC2 : Hid (∀ w3 : World, wr.drew.grownBy w3 (some (w.heap.size + 1 + 1)) → Below (w.heap.size + 1) (w.alloc (.cells #[.int .i64 0, .slice none 0 0] 24)) w3) := fun w3 h => hE.drew.grown h (by simp; omega) (fun j e => by cases e; omega)
      have HC3 : Hid (∀ w3 : World, wr.drew.grownBy w3 (some (w.heap.size + 1 + 1)) → w1.heap.size + 1 ≤ w3.heap.size) := fun w3 h => Nat.le_trans hlwr h.size
      have HC4 : Hid (∀ w3 : World, wr.drew.grownBy w3 (some (w.heap.size + 1 + 1)) → w3.cell? ⟨b, off + x, none⟩ = some (.int .i64 j)) := fun w3 h => by
        have hb3 : Below w.heap.size wr w3 := (Below.refl _ wr).drew.grown h (by simp; omega) (fun j e => by cases e; omega)
        exact (hb3.cell (p := ⟨b, off + x, none⟩) hb).trans HCB.out
      have W1 : IntKind.i64.wrap ((v : Int) + 1) = (v : Int) + 1 := IntWalk.i64_in _ (by omega)
      have z1 : (0 : Int) ≤ (v : Int) + 1 := by clear W1; omega
      have W2 : Int.tmod ((v : Int) + 1) (n : Int) = ((v : Int) + 1) % (n : Int) := Int.tmod_eq_emod_of_nonneg z1
      go_wp2_with fail
      go_region_with (go_at_call 27; refine (HJ1.out wr.drew HB.out).mono ?_; rintro e w3 ⟨⟨v3, rfl⟩, hB3, hg3⟩; have HB3 := Lib.hid hB3; have HX3 := Lib.hid (HC1.out w3 hg3); have hE3 := Lib.hid (HC2.out w3 hg3); have t3 := Lib.hid (HC3.out w3 hg3); have hcb := HC4.out w3 hg3; clear x0 x1 hB3 hg3; obtain ⟨x0, x1, -, -⟩ := two_cells HX3.out)
      all_goals clear W1 W2 z1 HC1 HC2 HC3 HX HB hE HJ1 HC4 HCB
      all_goals
        have hlw3 : w1.heap.size < w3.heap.size := t3.out
        have hsE := hE3.out.size
        have HC1 := Lib.hid (fun (w4 : World) (h : w3.drew.grownBy w4 (some (w.heap.size + 1 + 1))) => (h.block w1.heap.size hlw3 (by simp; exact HGW.out)).trans HX3.out)
        have HC2 : Hid (∀ w4 : World, w3.drew.grownBy w4 (some (w.heap.size + 1 + 1)) → Below (w.heap.size + 1) (w.alloc (.cells #[.int .i64 0, .slice none 0 0] 24)) w4) := fun w4 h => hE3.out.drew.grown h (by simp; omega) (fun j e => by cases e; omega)
        have HC3 : Hid (∀ w4 : World, w3.drew.grownBy w4 (some (w.heap.size + 1 + 1)) → w1.heap.size + 1 ≤ w4.heap.size) := fun w4 h => Nat.le_trans hlw3 h.size
        have z1 : (0 : Int) ≤ (v : Int) + j := by omega
        have z2 : (0 : Int) ≤ v := by omega
        go_wp2_with fail
        have W1 : IntKind.i64.wrap ((v : Int) + j) = (v : Int) + j := IntWalk.i64_in _ (by omega)
        have W2 : Int.tmod ((v : Int) + j) (n : Int) = ((v : Int) + j) % (n : Int) := Int.tmod_eq_emod_of_nonneg z1
        have hrem : (js.length : Int) ≠ 0 := by clear W1; omega
        have hrem2 : ((js.length : Int) == 0) = false := by simpa using hrem
        have hrem3 : ¬ js = [] := fun e => by rw [e] at h0; simp at h0
        have hrem4 : ¬ js.length = 0 := by clear W1; omega
        have W3 : Int.tmod (v : Int) (js.length : Int) = (x : Int) := (Int.tmod_eq_emod_of_nonneg z2).trans HXI.out
        go_region_with (go_at_call 27; refine (HJ2.out w3.drew HB3.out).mono ?_; rintro e w4 ⟨⟨v4, rfl⟩, hB4, hg4⟩; have HB4 := Lib.hid hB4; have HX4 := Lib.hid (HC1.out w4 hg4); have hE4 := Lib.hid (HC2.out w4 hg4); have t4 := Lib.hid (HC3.out w4 hg4); clear x0 x1 hB4 hg4)
      all_goals clear W1 W2 W3 z1 z2 HC1 HC2 HC3 HX3 HB3 hE3 HJ2 hcb
      all_goals
        have HB5 : Hid (Blk w4 (w.heap.size + 1 + 1) (rowsF n (adjS (jumpS n js (v + 1))))) := by show Blk _ _ _; rw [HSUC.out]; exact HB4.out
        go_wp2_with fail
        go_roundw
        case rel => exact ⟨v + 1, by omega, by go_num, HB5, HX4, hE4.out, t4.out⟩
        case measure => simp [intOf]; omega
    · obtain rfl : v = n := by omega
      have RB := Lib.hid ((hE.block w.heap.size (by omega)).trans HH.out)
      obtain ⟨r0, r1, g0, g1⟩ := two_cells RB.out
      obtain ⟨x0, x1, -, -⟩ := two_cells HX.out
      go_wp2_with fail
      have hfin := two_set (a := .int .i64 v) (b := .slice (some ⟨w.heap.size + 1 + 1, 0, none⟩) v v) RB.out
      refine bodyPost_ret (v := .agg #[.int .i64 v, .slice (some ⟨w.heap.size + 1 + 1, 0, none⟩) v v]) (results_cell_row (p := 4) (ty := 24) rfl _ _ w.heap.size 24 _ (0, 0) _ rfl hfin Try.underlying24 rfl (by exact info27)) rfl ⟨⟨_, rfl, ?_, by omega⟩, ?_⟩
      · exact (HB.out.other (by simp; omega) _).other (by simp; omega) _
      · exact ((D0.trans (hE.mono (by omega))).setCell (p := ⟨w.heap.size, 0, none⟩) (by simp) _).setCell (p := ⟨w.heap.size, 1, none⟩) (by simp) _

/-- A graph and a truth value, the rows in memory of their own. -/
def BRes (B : Nat) (N : Int) (L : List Int) (c : Bool) (e : Ending) (w' : World) : Prop := ∃ u, e = .returned (.tuple #[.agg #[.int .i64 N, u], .bool c]) ∧ Own w' B u L
end Go.Proofs.Ytonfcmngokmgpaa
