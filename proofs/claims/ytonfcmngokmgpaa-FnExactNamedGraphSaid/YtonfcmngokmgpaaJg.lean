/-
  impl.jumpGraph, impl.JumpGraph.
-/
import Derived.Test.YtonfcmngokmgpaaRg
namespace Go.Proofs.Ytonfcmngokmgpaa
set_option maxRecDepth 100000
open Go.RowKit Go.Maps Go.WideMaps Go.WideElems

/-- The edges of a jump graph, those of the first i vertices. -/
def jumpS (n : Nat) (js : List Int) : Nat → List (Nat × Nat)
  | 0 => []
  | i + 1 => if js.length = 0 then jumpS n js i ++ [(i, (i + 1) % n)] else (jumpS n js i ++ [(i, (i + 1) % n)]) ++ [(i, (i + (el js (i % js.length)).toNat) % n)]
theorem jumpS_nil (n : Nat) (js : List Int) (i : Nat) (h : js.length = 0) : jumpS n js (i + 1) = jumpS n js i ++ [(i, (i + 1) % n)] := by rw [jumpS, if_pos h]
theorem jumpS_some (n : Nat) (js : List Int) (i : Nat) (h : 0 < js.length) : jumpS n js (i + 1) = (jumpS n js i ++ [(i, (i + 1) % n)]) ++ [(i, (i + (el js (i % js.length)).toNat) % n)] := by rw [jumpS, if_neg (by omega)]
theorem jumpS_length (n : Nat) (js : List Int) : ∀ i, (jumpS n js i).length ≤ 2 * i
  | 0 => by simp [jumpS]
  | i + 1 => by have := jumpS_length n js i; rw [jumpS]; split <;> simp <;> omega
theorem jumpS_mem (n : Nat) (js : List Int) (hn : 0 < n) : ∀ i, i ≤ n → ∀ p, p ∈ jumpS n js i → p.1 < n ∧ p.2 < n
  | 0, _, p, h => by simp [jumpS] at h
  | i + 1, hi, p, h => by
    have m1 := Nat.mod_lt (i + 1) hn
    have m2 := Nat.mod_lt (i + (el js (i % js.length)).toNat) hn
    rw [jumpS] at h
    split at h
    · simp only [List.mem_append, List.mem_singleton] at h
      rcases h with h | rfl
      · exact jumpS_mem n js hn i (by omega) p h
      · simp only; omega
    · simp only [List.mem_append, List.mem_singleton] at h
      rcases h with (h | rfl) | rfl
      · exact jumpS_mem n js hn i (by omega) p h
      · simp only; omega
      · simp only; omega

/-- A jump that is one. -/
def jumpB (n z : Int) : Bool := decide (1 ≤ z) && decide (z ≤ n - 1)
theorem jumpB_iff (n z : Int) : jumpB n z = true ↔ 1 ≤ z ∧ z ≤ n - 1 := by unfold jumpB; simp
def jumpsOk (n : Int) (js : List Int) (k : Nat) : Bool := (List.range k).all fun i => jumpB n (el js i)
theorem jumpsOk_succ (n : Int) (js : List Int) (k : Nat) : jumpsOk n js (k + 1) = (jumpsOk n js k && jumpB n (el js k)) := by
  unfold jumpsOk; rw [List.range_succ, List.all_append]; simp
theorem jumpsOk_at {n : Int} {js : List Int} {k i : Nat} (h : jumpsOk n js k = true) (hi : i < k) : 1 ≤ el js i ∧ el js i ≤ n - 1 :=
  (jumpB_iff _ _).1 (List.all_eq_true.1 h i (List.mem_range.2 hi))
theorem jumpsOk_no {n : Int} {js : List Int} {k i : Nat} (hi : i < k) (h : jumpB n (el js i) = false) : jumpsOk n js k = false := by
  cases e : jumpsOk n js k with
  | false => rfl
  | true => have := List.all_eq_true.1 e i (List.mem_range.2 hi); rw [h] at this; cases this
/-- What a jump graph is asked for. -/
def jumpOk (n : Int) (js : List Int) : Bool := decide (3 ≤ n) && decide (n ≤ 62) && decide (js.length ≤ 20) && jumpsOk n js js.length
theorem jumpOk_iff (n : Int) (js : List Int) : jumpOk n js = true ↔ 3 ≤ n ∧ n ≤ 62 ∧ js.length ≤ 20 ∧ jumpsOk n js js.length = true := by
  unfold jumpOk; simp [and_assoc]
def JgN (n : Int) (js : List Int) : Int := if jumpOk n js then n else 0
def JgL (n : Int) (js : List Int) : List Int := if jumpOk n js then rowsF n.toNat (adjS (jumpS n.toNat js n.toNat)) else []
def JgC (n : Int) (js : List Int) : Int := if jumpOk n js then 0 else 2
theorem JgL_length (n : Int) (js : List Int) : (JgL n js).length ≤ 62 := by
  unfold JgL; split
  · rename_i h; have := (jumpOk_iff n js).1 h; rw [rowsF_length]; omega
  · simp
theorem Jg_no {n : Int} {js : List Int} (h : jumpOk n js = false) : JgN n js = 0 ∧ JgL n js = [] ∧ JgC n js = 2 := by simp [JgN, JgL, JgC, h]
theorem Jg_yes {n : Nat} {js : List Int} (h : jumpOk n js = true) : JgN n js = n ∧ JgL n js = rowsF n (adjS (jumpS n js n)) ∧ JgC n js = 0 := by simp [JgN, JgL, JgC, h]

set_option maxHeartbeats 1600000 in
set_option maxRecDepth 100000 in
theorem implJumps_nil (n : Nat) (a : Option Addr) (c : Nat) (w : World) (h3 : 3 ≤ n) (hn : n ≤ 62) :
    Calls Try.prog 20 #[.int .i64 n, .slice a 0 c] w fun e w' => GRet w.heap.size n (rowsF n (adjS (jumpS n [] n))) e w' ∧ Below w.heap.size w w' := by
  have hmm := @run_makeMap Try.prog
  have D0 : Below w.heap.size w ((w.alloc (.cells #[.int .i64 0, .slice none 0 0] 24)).alloc (.map #[] 0)) := ((Below.refl _ _).alloc (Nat.le_refl _) _).alloc (by simp) _
  have HH := Lib.hid (heap_old_at (World.alloc_heap_new w (.cells #[.int .i64 0, .slice none 0 0] 24)) (.map #[] 0))
  have HP0 := Lib.hid (PS.made (w.alloc (.cells #[.int .i64 0, .slice none 0 0] 24)))
  obtain ⟨W, hW⟩ : ∃ W, W = ((w.alloc (.cells #[.int .i64 0, .slice none 0 0] 24)).alloc (.map #[] 0)) := ⟨_, rfl⟩
  have hsz : w.heap.size + 2 ≤ W.heap.size := by rw [hW]; simp
  rw [← hW] at D0 HH HP0
  rw [World.size_alloc] at HP0
  go_enter Try.func20, Try.ntmps20
  go_wp2_with fail
  rw [← hW]
  clear hW hmm
  go_loopw [6, 9] (fun _ i wr => ∃ v : Nat, v ≤ n ∧ i = .int .i64 v ∧ Hid (PS wr (w.heap.size + 1) (jumpS n [] v)) ∧ Below (w.heap.size + 1) W wr ∧ W.heap.size ≤ wr.heap.size) (fun _ i _ => n - (intOf i).toNat)
  case atStart => exact ⟨0, Nat.zero_le _, rfl, HP0, Below.refl _ _, Nat.le_refl _⟩
  case round =>
    obtain ⟨v, hv, rfl, HP, hE, hs⟩ := hrel
    have HL := Lib.hid (jumpS_length n [] v)
    by_cases hlt : v < n
    · have m1 := Int.emod_nonneg ((v : Int) + 1) (b := (n : Int)) (by omega)
      have m2 := Int.emod_lt_of_pos ((v : Int) + 1) (b := (n : Int)) (by omega)
      have q1 := Nat.mod_lt (v + 1) (show n > 0 by omega)
      have E1 : Hid (((v : Int) + 1) % (n : Int) = (((v + 1) % n : Nat) : Int)) := by show _ = _; simp
      have HJ1 := Lib.hid (fun W1 h => join_at (w.heap.size + 1) (jumpS n [] v) v ((v + 1) % n) (v : Int) (((v : Int) + 1) % (n : Int)) W1 h (by have := HL.out; omega) (by omega) (by omega) rfl E1.out)
      clear E1 q1
      go_wp2_with fail
      refine (HJ1.out _ HP.out).mono ?_
      rintro e w1 ⟨⟨v1, rfl⟩, hP1, hg1⟩
      have hE1 := hE.grown hg1 (by omega) (fun j e => by cases e; omega)
      have t1 := hg1.size
      clear hE hg1 HP HJ1
      have HP2 : Hid (PS w1 (w.heap.size + 1) (jumpS n [] (v + 1))) := by show PS _ _ _; rw [jumpS_nil n [] v rfl]; exact hP1
      clear hP1
      go_wp2_with fail
      go_roundw
      case rel => exact ⟨v + 1, by omega, by go_num, HP2, hE1, by omega⟩
      case measure => simp [intOf]; omega
    · obtain rfl : v = n := by omega
      have hgo := Lib.hid (gop_at v (w.heap.size + 1) (v : Int) (jumpS v [] v) wr HP.out hn (jumpS_mem v [] (by omega) v (Nat.le_refl _)) rfl)
      have RB0 := Lib.hid ((hE.block w.heap.size (by omega)).trans HH.out)
      clear HP
      go_wp2_with fail
      refine hgo.out.mono ?_
      rintro e w1 ⟨⟨g, rfl, hB, hg⟩, hb1⟩
      have RB := Lib.hid ((hb1.block w.heap.size (by omega)).trans RB0.out)
      obtain ⟨r0, r1, g0, g1⟩ := two_cells RB.out
      have HB := Lib.hid hB
      have hE1 := hE.trans (hb1.mono (by omega))
      clear hB hb1 hE hgo RB0
      go_wp2_with fail
      have hfin := two_set (a := .int .i64 v) (b := .slice (some ⟨g, 0, none⟩) v v) RB.out
      refine bodyPost_ret (v := .agg #[.int .i64 v, .slice (some ⟨g, 0, none⟩) v v]) (results_cell_row (p := 4) (ty := 24) rfl _ _ w.heap.size 24 _ (0, 0) _ rfl hfin Try.underlying24 rfl (by exact info27)) rfl ⟨⟨_, rfl, ?_, by omega⟩, ?_⟩
      · exact (HB.out.other (by simp; omega) _).other (by simp; omega) _
      · exact ((D0.trans (hE1.mono (by omega))).setCell (p := ⟨w.heap.size, 0, none⟩) (by simp) _).setCell (p := ⟨w.heap.size, 1, none⟩) (by simp) _

set_option maxHeartbeats 1600000 in
set_option maxRecDepth 100000 in
theorem implJumps_some (n : Nat) (b off cap : Nat) (js : List Int) (w : World) (h3 : 3 ≤ n) (hn : n ≤ 62) (hb : b < w.heap.size) (hc : Cells w b off js) (h0 : 0 < js.length) (hjl : js.length ≤ 20) (hj : jumpsOk n js js.length = true) :
    Calls Try.prog 20 #[.int .i64 n, .slice (some ⟨b, off, none⟩) js.length cap] w fun e w' => GRet w.heap.size n (rowsF n (adjS (jumpS n js n))) e w' ∧ Below w.heap.size w w' := by
  have hmm := @run_makeMap Try.prog
  have D0 : Below w.heap.size w ((w.alloc (.cells #[.int .i64 0, .slice none 0 0] 24)).alloc (.map #[] 0)) := ((Below.refl _ _).alloc (Nat.le_refl _) _).alloc (by simp) _
  have HH := Lib.hid (heap_old_at (World.alloc_heap_new w (.cells #[.int .i64 0, .slice none 0 0] 24)) (.map #[] 0))
  have HP0 := Lib.hid (PS.made (w.alloc (.cells #[.int .i64 0, .slice none 0 0] 24)))
  obtain ⟨W, hW⟩ : ∃ W, W = ((w.alloc (.cells #[.int .i64 0, .slice none 0 0] 24)).alloc (.map #[] 0)) := ⟨_, rfl⟩
  have hsz : w.heap.size + 2 ≤ W.heap.size := by rw [hW]; simp
  rw [← hW] at D0 HH HP0
  rw [World.size_alloc] at HP0
  have HC := Lib.hid hc; have HJ := Lib.hid hj
  clear hc hj
  go_enter Try.func20, Try.ntmps20
  go_wp2_with fail
  rw [← hW]
  clear hW hmm
  go_loopw [6, 9] (fun _ i wr => ∃ v : Nat, v ≤ n ∧ i = .int .i64 v ∧ Hid (PS wr (w.heap.size + 1) (jumpS n js v)) ∧ Below (w.heap.size + 1) W wr ∧ W.heap.size ≤ wr.heap.size) (fun _ i _ => n - (intOf i).toNat)
  case atStart => exact ⟨0, Nat.zero_le _, rfl, HP0, Below.refl _ _, Nat.le_refl _⟩
  case round =>
    obtain ⟨v, hv, rfl, HP, hE, hs⟩ := hrel
    have HL := Lib.hid (jumpS_length n js v)
    by_cases hlt : v < n
    · have m1 := Int.emod_nonneg ((v : Int) + 1) (b := (n : Int)) (by omega)
      have m2 := Int.emod_lt_of_pos ((v : Int) + 1) (b := (n : Int)) (by omega)
      have q1 := Nat.mod_lt (v + 1) (show n > 0 by omega)
      have E1 : Hid (((v : Int) + 1) % (n : Int) = (((v + 1) % n : Nat) : Int)) := by show _ = _; simp
      have HJ1 := Lib.hid (fun W1 h => join_at (w.heap.size + 1) (jumpS n js v) v ((v + 1) % n) (v : Int) (((v : Int) + 1) % (n : Int)) W1 h (by have := HL.out; omega) (by omega) (by omega) rfl E1.out)
      obtain ⟨x, hx⟩ : ∃ x, x = v % js.length := ⟨_, rfl⟩
      have hxl : x < js.length := by rw [hx]; exact Nat.mod_lt _ h0
      have hxi : ((v : Int) % (js.length : Int)) = (x : Int) := by rw [hx]; simp
      obtain ⟨j1, j2⟩ := jumpsOk_at HJ.out hxl
      obtain ⟨j, hj⟩ := Int.eq_ofNat_of_zero_le (show 0 ≤ el js x by omega)
      rw [hj] at j1 j2
      have m3 := Int.emod_nonneg ((v : Int) + j) (b := (n : Int)) (by omega)
      have m4 := Int.emod_lt_of_pos ((v : Int) + j) (b := (n : Int)) (by omega)
      have q2 := Nat.mod_lt (v + j) (show n > 0 by omega)
      have E2 : Hid (((v : Int) + j) % (n : Int) = (((v + j) % n : Nat) : Int)) := by show _ = _; simp
      have HJ2 := Lib.hid (fun W1 h => join_at (w.heap.size + 1) (jumpS n js v ++ [(v, (v + 1) % n)]) v ((v + j) % n) (v : Int) (((v : Int) + j) % (n : Int)) W1 h (by rw [List.length_append]; have := HL.out; simp; omega) (by omega) (by omega) rfl E2.out)
      have HSUC : Hid (jumpS n js (v + 1) = (jumpS n js v ++ [(v, (v + 1) % n)]) ++ [(v, (v + j) % n)]) := by show _ = _; rw [jumpS_some n js v h0, ← hx, hj]; rfl
      have HEL := Lib.hid hj; have HX := Lib.hid hx; have HXI := Lib.hid hxi
      have hx0 : (0 : Int) ≤ x := by omega
      have hxl' : (x : Int) < js.length := by omega
      have hgt : (0 : Int) < js.length := by omega
      clear E2 q2 hj hx hxi
      clear E1 q1
      go_wp2_with fail
      refine (HJ1.out _ HP.out).mono ?_
      rintro e w1 ⟨⟨v1, rfl⟩, hP1, hg1⟩
      have hE1 := hE.grown hg1 (by omega) (fun j e => by cases e; omega)
      have t1 := hg1.size
      clear hE hg1 HP HJ1
      have HP1 := Lib.hid hP1
      have hz : w1.cell? ⟨b, off + x, none⟩ = some (.int .i64 j) := by
        have e1 := (hE1.cell (p := ⟨b, off + x, none⟩) (by simp; omega)).trans ((D0.cell (p := ⟨b, off + x, none⟩) hb).trans (HC.out x hxl))
        rw [HEL.out] at e1
        exact e1
      have hrem : (js.length : Int) ≠ 0 := by omega
      clear hP1
      have hxi := HXI.out
      go_wp2_with fail
      refine (HJ2.out _ HP1.out).mono ?_
      rintro e w2 ⟨⟨v2, rfl⟩, hP2, hg2⟩
      have hE2 := hE1.grown hg2 (by omega) (fun j e => by cases e; omega)
      have t2 := hg2.size
      have HP2 : Hid (PS w2 (w.heap.size + 1) (jumpS n js (v + 1))) := by show PS _ _ _; rw [HSUC.out]; exact hP2
      clear hE1 hg2 HP1 HJ2 hP2 hxi hz
      go_wp2_with fail
      go_roundw
      case rel => exact ⟨v + 1, by omega, by go_num, HP2, hE2, by omega⟩
      case measure => simp [intOf]; omega
    · obtain rfl : v = n := by omega
      have hgo := Lib.hid (gop_at v (w.heap.size + 1) (v : Int) (jumpS v js v) wr HP.out hn (jumpS_mem v js (by omega) v (Nat.le_refl _)) rfl)
      have RB0 := Lib.hid ((hE.block w.heap.size (by omega)).trans HH.out)
      clear HP
      go_wp2_with fail
      refine hgo.out.mono ?_
      rintro e w1 ⟨⟨g, rfl, hB, hg⟩, hb1⟩
      have RB := Lib.hid ((hb1.block w.heap.size (by omega)).trans RB0.out)
      obtain ⟨r0, r1, g0, g1⟩ := two_cells RB.out
      have HB := Lib.hid hB
      have hE1 := hE.trans (hb1.mono (by omega))
      clear hB hb1 hE hgo RB0
      go_wp2_with fail
      have hfin := two_set (a := .int .i64 v) (b := .slice (some ⟨g, 0, none⟩) v v) RB.out
      refine bodyPost_ret (v := .agg #[.int .i64 v, .slice (some ⟨g, 0, none⟩) v v]) (results_cell_row (p := 4) (ty := 24) rfl _ _ w.heap.size 24 _ (0, 0) _ rfl hfin Try.underlying24 rfl (by exact info27)) rfl ⟨⟨_, rfl, ?_, by omega⟩, ?_⟩
      · exact (HB.out.other (by simp; omega) _).other (by simp; omega) _
      · exact ((D0.trans (hE1.mono (by omega))).setCell (p := ⟨w.heap.size, 0, none⟩) (by simp) _).setCell (p := ⟨w.heap.size, 1, none⟩) (by simp) _
end Go.Proofs.Ytonfcmngokmgpaa
