/-
  spec.PlaneGraph.
-/
import Derived.Test.YtbfdhnecadgfdaaDoorUm
import Derived.Test.YtbfdhnecadgfdaaDoorUi
namespace Go.Proofs.YtbfdhnecadgfdaaDoor
set_option maxRecDepth 100000
open Go.RowKit

/-- The pairs (i, n + k) that f tells, in the order of the model's loops. -/
def inK (f : Nat → Nat → Bool) (n i : Nat) : Nat → List (Nat × Nat)
  | 0 => []
  | k + 1 => if f i k then inK f n i k ++ [(i, n + k)] else inK f n i k
def kS (f : Nat → Nat → Bool) (n : Nat) : Nat → List (Nat × Nat)
  | 0 => []
  | i + 1 => kS f n i ++ inK f n i n
theorem inK_yes {f : Nat → Nat → Bool} {n i k : Nat} (h : f i k = true) : inK f n i (k + 1) = inK f n i k ++ [(i, n + k)] := by simp [inK, h]
theorem inK_no {f : Nat → Nat → Bool} {n i k : Nat} (h : f i k = false) : inK f n i (k + 1) = inK f n i k := by simp [inK, h]
theorem inK_iff (f : Nat → Nat → Bool) (n i : Nat) : ∀ k p, p ∈ inK f n i k ↔ p.1 = i ∧ n ≤ p.2 ∧ p.2 < n + k ∧ f i (p.2 - n) = true
  | 0, p => by
    simp only [inK, List.not_mem_nil, false_iff]
    omega
  | k + 1, p => by
    have ih := inK_iff f n i k p
    cases e : f i k with
    | true =>
      rw [inK_yes e, List.mem_append, List.mem_singleton, ih]
      constructor
      · rintro (⟨h1, h2, h3, h4⟩ | rfl)
        · exact ⟨h1, h2, by omega, h4⟩
        · exact ⟨rfl, by simp only; omega, by simp only; omega, by simp only [Nat.add_sub_cancel_left]; exact e⟩
      · rintro ⟨h1, h2, h3, h4⟩
        by_cases h : p.2 = n + k
        · exact .inr (Prod.ext h1 h)
        · exact .inl ⟨h1, h2, by omega, h4⟩
    | false =>
      rw [inK_no e, ih]
      constructor
      · rintro ⟨h1, h2, h3, h4⟩
        exact ⟨h1, h2, by omega, h4⟩
      · rintro ⟨h1, h2, h3, h4⟩
        refine ⟨h1, h2, ?_, h4⟩
        by_cases h : p.2 = n + k
        · rw [h, Nat.add_sub_cancel_left, e] at h4; cases h4
        · omega
theorem kS_iff (f : Nat → Nat → Bool) (n : Nat) : ∀ m p, p ∈ kS f n m ↔ p.1 < m ∧ n ≤ p.2 ∧ p.2 < n + n ∧ f p.1 (p.2 - n) = true
  | 0, p => by simp [kS]
  | m + 1, p => by
    rw [kS, List.mem_append, kS_iff f n m p, inK_iff f n m n p]
    constructor
    · rintro (⟨h1, h2⟩ | ⟨h1, h2⟩)
      · exact ⟨by omega, h2⟩
      · rw [h1]; exact ⟨Nat.lt_succ_self _, h2⟩
    · rintro ⟨h1, h2⟩
      by_cases h : p.1 = m
      · rw [h] at h2; exact .inr ⟨h, h2⟩
      · exact .inl ⟨by omega, h2⟩
theorem adjS_congr {S T : List (Nat × Nat)} (h : ∀ p, p ∈ S ↔ p ∈ T) : adjS S = adjS T := by
  funext v w
  rw [Bool.eq_iff_iff, adjS_iff, adjS_iff]
  exact ⟨fun ⟨p, hp, r⟩ => ⟨p, (h p).1 hp, r⟩, fun ⟨p, hp, r⟩ => ⟨p, (h p).2 hp, r⟩⟩
theorem kinds_same (f : Nat → Nat → Bool) (n : Nat) : adjS (kS f n n) = adjS (whereS (kF n f) (2 * n)) := adjS_congr fun p => by
  rw [kS_iff, whereS_iff]
  unfold kF
  simp only [Bool.and_eq_true, decide_eq_true_eq]
  constructor
  · rintro ⟨h1, h2, h3, h4⟩
    exact ⟨by omega, by omega, h1, h2, h4⟩
  · rintro ⟨h1, h2, h3, h4, h5⟩
    exact ⟨h3, h4, by omega, h5⟩

set_option maxHeartbeats 800000 in
theorem specPl_no (x : Int) (w : World) (h : ¬ (x = 2 ∨ x = 3 ∨ x = 5 ∨ x = 7)) :
    Calls Tryd.prog 29 #[.int .i64 x] w fun e w' => GRes w.heap.size 0 [] 2 e w' ∧ Below w.heap.size w w' := by
  have D0 : Below w.heap.size w (w.alloc (.cells #[.int .i64 0, .slice none 0 0] 34)) := (Below.refl _ _).alloc (Nat.le_refl _) _
  have RB := Lib.hid (World.alloc_heap_new w (.cells #[.int .i64 0, .slice none 0 0] 34))
  obtain ⟨W, hW⟩ : ∃ W, W = w.alloc (.cells #[.int .i64 0, .slice none 0 0] 34) := ⟨_, rfl⟩
  rw [← hW] at D0 RB
  have HPR := Lib.hid (fun W1 => l04Prime_no x W1 h)
  clear h
  go_enter Tryd.func29, Tryd.ntmps29
  go_wp2_with (go_at_call 42; refine (HPR.out _).mono ?_; rintro e w' ⟨rfl, rfl⟩)
  rw [← hW]
  refine bodyPost_ret (v := .tuple #[.agg #[.int .i64 0, .slice none 0 0], .int .i64 2]) (results_cell2 (p := 2) (u := 3) (ty := 34) rfl _ _ w.heap.size 34 _ (0, 0) _ rfl RB.out Tryd.underlying34 rfl (by exact info27)) rfl ⟨⟨_, rfl, Own.nil _ _⟩, D0⟩

set_option maxHeartbeats 800000 in
theorem specPl_far (w : World) :
    Calls Tryd.prog 29 #[.int .i64 7] w fun e w' => GRes w.heap.size 0 [] 3 e w' ∧ Below w.heap.size w w' := by
  have D0 : Below w.heap.size w (w.alloc (.cells #[.int .i64 0, .slice none 0 0] 34)) := (Below.refl _ _).alloc (Nat.le_refl _) _
  have RB := Lib.hid (World.alloc_heap_new w (.cells #[.int .i64 0, .slice none 0 0] 34))
  obtain ⟨W, hW⟩ : ∃ W, W = w.alloc (.cells #[.int .i64 0, .slice none 0 0] 34) := ⟨_, rfl⟩
  rw [← hW] at D0 RB
  have HPR := Lib.hid (fun W1 => l04Prime_yes 7 W1 (by omega))
  go_enter Tryd.func29, Tryd.ntmps29
  go_wp2_with (go_at_call 42; refine (HPR.out _).mono ?_; rintro e w' ⟨rfl, rfl⟩)
  rw [← hW]
  refine bodyPost_ret (v := .tuple #[.agg #[.int .i64 0, .slice none 0 0], .int .i64 3]) (results_cell2 (p := 2) (u := 3) (ty := 34) rfl _ _ w.heap.size 34 _ (0, 0) _ rfl RB.out Tryd.underlying34 rfl (by exact info27)) rfl ⟨⟨_, rfl, Own.nil _ _⟩, D0⟩

set_option maxHeartbeats 3200000 in
set_option maxRecDepth 100000 in
theorem specPl_yes (q : Nat) (w : World) (h : q = 2 ∨ q = 3 ∨ q = 5) :
    Calls Tryd.prog 29 #[.int .i64 q] w fun e w' => GRes w.heap.size ((2 * (ptsL q).length : Nat) : Int) (rowsF (2 * (ptsL q).length) (adjS (kS (onF q (ptsL q)) (ptsL q).length (ptsL q).length))) 0 e w' ∧ Below w.heap.size w w' := by
  have hq : 2 ≤ q ∧ q ≤ 5 := by omega
  have HPR := Lib.hid (fun W => l04Prime_yes (q : Int) W (by omega))
  have hp := fun W => specPoints_any q W (by omega)
  obtain ⟨hl0, hl57⟩ := pts_len57 q (by omega)
  have htri := fun i => pts_at q i (by omega)
  have hl31 : (ptsL q).length ≤ 31 := by rw [pts_len q (by omega)]; rcases h with rfl | rfl | rfl <;> omega
  have hz1 : 0 ≤ (q : Int) * (q : Int) ∧ (q : Int) * (q : Int) ≤ 25 := by rcases h with rfl | rfl | rfl <;> omega
  obtain ⟨P, hP⟩ : ∃ P, P = ptsL q := ⟨_, rfl⟩
  rw [← hP] at hp hl0 hl31 htri ⊢
  obtain ⟨n, hn⟩ : ∃ n, n = P.length := ⟨_, rfl⟩
  obtain ⟨m, hm⟩ : ∃ m, m = 2 * P.length := ⟨_, rfl⟩
  have D0 : Below w.heap.size w (w.alloc (.cells #[.int .i64 0, .slice none 0 0] 34)) := (Below.refl _ _).alloc (Nat.le_refl _) _
  have RB0 := Lib.hid (World.alloc_heap_new w (.cells #[.int .i64 0, .slice none 0 0] 34))
  obtain ⟨W, hW⟩ : ∃ W, W = w.alloc (.cells #[.int .i64 0, .slice none 0 0] 34) := ⟨_, rfl⟩
  have hsz : w.heap.size + 1 ≤ W.heap.size := by rw [hW]; simp
  rw [← hW] at D0 RB0
  have HTRI := Lib.hid htri; have HP := Lib.hid hp
  clear hP hp htri h
  go_enter Tryd.func29, Tryd.ntmps29
  go_upto_region 1 with fail
  rw [← hW]
  clear hW
  go_upto_region 7 with (first
    | (go_at_call 42; refine (HPR.out _).mono ?_; rintro e w' ⟨rfl, rfl⟩)
    | (go_at_call 43; refine (HP.out _).mono ?_; rintro e w1 ⟨⟨tv, rfl, hT⟩, hb1⟩; obtain ⟨g, cap, rfl, hg1, hg2⟩ := hT.form1 hl0; have HT := Lib.hid hT; have HB1 := Lib.hid hb1; clear hT hb1))
  have s1 := HB1.out.size
  have RB1 := Lib.hid ((HB1.out.block w.heap.size (by omega)).trans RB0.out)
  have E1 : Below w.heap.size w w1 := D0.trans (HB1.out.mono (by omega))
  have HROW := Lib.hid (fun i (hi : i < P.length) => HT.out.rowAt hi (by rw [(HTRI.out i hi).1]; omega))
  have hem := Lib.hid (specEmpty_at (2 * (n : Int)) m w1 (by omega) (by rw [hm, hn]; simp))
  rw [← hn]
  have HM := Lib.hid hm; have HNN := Lib.hid hn
  have HMN : Hid (m = 2 * n) := by show _ = _; rw [hm, hn]
  have hm62 : m ≤ 62 := by omega
  have hnm : n ≤ 31 := by omega
  clear HB1 RB0 D0 HP HPR HT hm hn hz1
  go_wp2_with (go_at_call 49; refine hem.out.mono ?_; rintro e w2 ⟨rfl, hB2, hb2⟩; have HB2 := Lib.hid hB2; have Hb2 := Lib.hid hb2; clear hB2 hb2)
  have l2 := HB2.out.lt
  obtain ⟨w3, h3w⟩ : ∃ w3, w3 = w2.alloc (.cells #[.int .i64 m, .slice (some ⟨w1.heap.size + 1, 0, none⟩) m m] 34) := ⟨_, rfl⟩
  have X3 : Hid (w3.heap[w2.heap.size]? = some (.cells #[.int .i64 m, .slice (some ⟨w1.heap.size + 1, 0, none⟩) m m] 34 (0, 0))) := by rw [h3w]; exact World.alloc_heap_new w2 _
  have hb3 : Below w2.heap.size w2 w3 := by rw [h3w]; exact (Below.refl _ _).alloc (Nat.le_refl _) _
  rw [← h3w]
  clear h3w hem
  have HB3 : Hid (Blk w3 (w1.heap.size + 1) (rowsF m (adjS (kS (onF q P) n 0)))) := by show Blk _ _ _; rw [show adjS (kS (onF q P) n 0) = fun _ _ => false from rfl, rowsF_none]; exact HB2.out.belowAll hb3
  have E3 : Below w1.heap.size w1 w3 := Hb2.out.trans (hb3.mono (by omega))
  have s3 : w2.heap.size + 1 ≤ w3.heap.size := (Array.getElem?_eq_some_iff.1 X3.out).1
  have HGW : Hid (w2.heap.size ≠ w1.heap.size + 1) := by show _ ≠ _; omega
  clear hb3 HB2 Hb2
  go_loopw [7] (fun i wr => ∃ v : Nat, v ≤ n ∧ i = .int .i64 v ∧ Hid (Blk wr (w1.heap.size + 1) (rowsF m (adjS (kS (onF q P) n v)))) ∧ Hid (wr.heap[w2.heap.size]? = some (.cells #[.int .i64 m, .slice (some ⟨w1.heap.size + 1, 0, none⟩) m m] 34 (0, 0))) ∧ Below w1.heap.size w1 wr ∧ w2.heap.size + 1 ≤ wr.heap.size) (fun i _ => n - (intOf i).toNat)
  case atStart => exact ⟨0, Nat.zero_le _, rfl, HB3, X3, E3, s3⟩
  case round =>
    obtain ⟨v, hv, rfl, HB, HX, hE, hs⟩ := hrel
    by_cases hlt : v < n
    · go_wp2_with fail
      obtain ⟨wo, rfl⟩ : ∃ wo : World, wo = wr := ⟨_, rfl⟩
      have HBI : Hid (Blk wo (w1.heap.size + 1) (rowsF m (adjS (kS (onF q P) n v ++ inK (onF q P) n v 0)))) := by show Blk _ _ _; rw [show kS (onF q P) n v ++ inK (onF q P) n v 0 = kS (onF q P) n v by simp [inK]]; exact HB.out
      go_loopw [8] (fun i wr => ∃ k : Nat, k ≤ n ∧ i = .int .i64 k ∧ Hid (Blk wr (w1.heap.size + 1) (rowsF m (adjS (kS (onF q P) n v ++ inK (onF q P) n v k)))) ∧ Hid (wr.heap[w2.heap.size]? = some (.cells #[.int .i64 m, .slice (some ⟨w1.heap.size + 1, 0, none⟩) m m] 34 (0, 0))) ∧ Below w1.heap.size w1 wr ∧ w2.heap.size + 1 ≤ wr.heap.size) (fun i _ => n - (intOf i).toNat)
      case atStart => exact ⟨0, Nat.zero_le _, rfl, HBI, HX, hE, hs⟩
      case round =>
        obtain ⟨k, hk, rfl, HC, HY, hF, ht⟩ := hrel
        by_cases hlk : k < n
        · have hvl : v < P.length := by rw [← HNN.out]; exact hlt
          have hkl : k < P.length := by rw [← HNN.out]; exact hlk
          have ht1 := HTRI.out v hvl
          have ht2 := HTRI.out k hkl
          obtain ⟨b, c, hc0, -, hb2, hcells⟩ := HROW.out v hvl
          obtain ⟨b', c', hc0', -, hb2', hcells'⟩ := HROW.out k hkl
          rw [ht1.1] at hc0 hcells
          rw [ht2.1] at hc0' hcells'
          have hcell : wr.cell? ⟨g, v, none⟩ = some (.slice (some ⟨b, 0, none⟩) 3 c) := (hF.cell (p := ⟨g, v, none⟩) hg2).trans hc0
          have hcell' : wr.cell? ⟨g, k, none⟩ = some (.slice (some ⟨b', 0, none⟩) 3 c') := (hF.cell (p := ⟨g, k, none⟩) hg2).trans hc0'
          have hv0 : (0 : Int) ≤ v := by omega
          have hk0 : (0 : Int) ≤ k := by omega
          have hvm : (v : Int) < n := by omega
          have hkm : (k : Int) < n := by omega
          have hon : ∀ r, onF q P v k = r → ∀ j, Calls Tryd.prog 44 #[.int .i64 q, .slice (some ⟨b, 0, none⟩) 3 c, .slice (some ⟨b', 0, none⟩) 3 c'] (wr.drewN j) fun en w' => en = .returned (.bool r) ∧ ∃ i, w' = (wr.drewN j).drewN i := fun r hr j => by
            have y0 := (hF.cell (p := ⟨b, 0, none⟩) hb2).trans (hcells 0 (by omega))
            have y1 := (hF.cell (p := ⟨b, 1, none⟩) hb2).trans (hcells 1 (by omega))
            have y2 := (hF.cell (p := ⟨b, 2, none⟩) hb2).trans (hcells 2 (by omega))
            have z0 := (hF.cell (p := ⟨b', 0, none⟩) hb2').trans (hcells' 0 (by omega))
            have z1 := (hF.cell (p := ⟨b', 1, none⟩) hb2').trans (hcells' 1 (by omega))
            have z2 := (hF.cell (p := ⟨b', 2, none⟩) hb2').trans (hcells' 2 (by omega))
            exact specOn_any q _ _ _ _ _ _ b c b' c' (wr.drewN j) r (by omega) (ht1.2 0) (ht1.2 1) (ht1.2 2) (ht2.2 0) (ht2.2 1) (ht2.2 2) y0 y1 y2 z0 z1 z2 hr
          cases hr : onF q P v k with
          | true =>
            have HON := Lib.hid (hon _ hr)
            have HN : Hid (kS (onF q P) n v ++ inK (onF q P) n v (k + 1) = kS (onF q P) n v ++ inK (onF q P) n v k ++ [(v, n + k)]) := by show _ = _; rw [inK_yes hr, ← List.append_assoc]
            have HJ := Lib.hid (fun W1 h => with_at m (w1.heap.size + 1) m (kS (onF q P) n v ++ inK (onF q P) n v k) v (n + k) (v : Int) ((n : Int) + (k : Int)) W1 h (by rw [HMN.out]; omega) (by rw [HMN.out]; omega) hm62 rfl (by simp))
            clear hr hon hcells hcells' hc0 hc0' ht1 ht2
            go_wp2_with fail
            go_quiet ((go_at_call 44; exact qdrew (HON.out _)))
            generalize hw4 : wr.drewN _ = w4
            have HB4 : Hid (Blk w4 (w1.heap.size + 1) (rowsF m (adjS (kS (onF q P) n v ++ inK (onF q P) n v k)))) := by rw [← hw4]; exact HC.out
            have HX4 : Hid (w4.heap[w2.heap.size]? = some (.cells #[.int .i64 m, .slice (some ⟨w1.heap.size + 1, 0, none⟩) m m] 34 (0, 0))) := by rw [← hw4]; exact HY.out
            have hE4 : Below w1.heap.size w1 w4 := by rw [← hw4]; exact drewN_below hF _
            have t4 : w2.heap.size + 1 ≤ w4.heap.size := by rw [← hw4]; exact ht
            clear hw4 HC HY hF ht hcell hcell' HON
            obtain ⟨x0, x1, y0, y1⟩ := two_cells HX4.out
            go_wp2_with fail
            refine (HJ.out _ HB4.out).mono ?_
            rintro e w5 ⟨rfl, hB5, hg5⟩
            have HB5 := Lib.hid hB5
            have HX5 := Lib.hid ((hg5.block w2.heap.size (by omega) (by simp; exact HGW.out)).trans HX4.out)
            have hE5 := hE4.grown hg5 (by omega) (fun j e => by cases e; omega)
            have t5 : w2.heap.size + 1 ≤ w5.heap.size := Nat.le_trans t4 hg5.size
            clear x0 x1 y0 y1 hB5 hg5 HX4 HB4 hE4 t4 HJ
            obtain ⟨x0, x1, y0, y1⟩ := two_cells HX5.out
            go_wp2_with fail
            obtain ⟨w6, h6⟩ : ∃ x, x = (w5.setCell ⟨w2.heap.size, 0, none⟩ (.int .i64 m)).setCell ⟨w2.heap.size, 1, none⟩ (.slice (some ⟨w1.heap.size + 1, 0, none⟩) m m) := ⟨_, rfl⟩
            have HX6 : Hid (w6.heap[w2.heap.size]? = some (.cells #[.int .i64 m, .slice (some ⟨w1.heap.size + 1, 0, none⟩) m m] 34 (0, 0))) := by rw [h6]; exact two_set HX5.out
            have HB6 : Hid (Blk w6 (w1.heap.size + 1) (rowsF m (adjS (kS (onF q P) n v ++ inK (onF q P) n v (k + 1))))) := by rw [h6, HN.out]; exact (HB5.out.other (by simp; exact HGW.out.symm) _).other (by simp; exact HGW.out.symm) _
            have hE6 : Below w1.heap.size w1 w6 := by rw [h6]; exact (hE5.setCell (p := ⟨w2.heap.size, 0, none⟩) (by simp; omega) _).setCell (p := ⟨w2.heap.size, 1, none⟩) (by simp; omega) _
            have t6 : w2.heap.size + 1 ≤ w6.heap.size := by rw [h6]; simpa using t5
            rw [← h6]
            clear h6 HX5 HB5 hE5 t5 x0 x1 y0 y1
            go_roundw
            case rel => exact ⟨k + 1, by omega, by go_num, HB6, HX6, hE6, t6⟩
            case measure => simp [intOf]; omega
          | false =>
            have HON := Lib.hid (hon _ hr)
            have HN : Hid (kS (onF q P) n v ++ inK (onF q P) n v (k + 1) = kS (onF q P) n v ++ inK (onF q P) n v k) := by show _ = _; rw [inK_no hr]
            clear hr hon hcells hcells' hc0 hc0' ht1 ht2
            go_wp2_with fail
            go_quiet ((go_at_call 44; exact qdrew (HON.out _)))
            generalize hw4 : wr.drewN _ = w4
            have HB4 : Hid (Blk w4 (w1.heap.size + 1) (rowsF m (adjS (kS (onF q P) n v ++ inK (onF q P) n v (k + 1))))) := by rw [← hw4, HN.out]; exact HC.out
            have HX4 : Hid (w4.heap[w2.heap.size]? = some (.cells #[.int .i64 m, .slice (some ⟨w1.heap.size + 1, 0, none⟩) m m] 34 (0, 0))) := by rw [← hw4]; exact HY.out
            have hE4 : Below w1.heap.size w1 w4 := by rw [← hw4]; exact drewN_below hF _
            have t4 : w2.heap.size + 1 ≤ w4.heap.size := by rw [← hw4]; exact ht
            clear hw4 HC HY hF ht hcell hcell' HON
            go_wp2_with fail
            go_roundw
            case rel => exact ⟨k + 1, by omega, by go_num, HB4, HX4, hE4, t4⟩
            case measure => simp [intOf]; omega
        · obtain rfl : k = n := by omega
          have HC1 : Hid (Blk wr (w1.heap.size + 1) (rowsF m (adjS (kS (onF q P) k (v + 1))))) := HC.out
          go_wp2_with fail
          go_roundw
          case rel => exact ⟨v + 1, by omega, by go_num, HC1, HY, hF, ht⟩
          case measure => simp [intOf]; omega
    · obtain rfl : v = n := by omega
      have RB := Lib.hid ((hE.block w.heap.size (by omega)).trans RB1.out)
      obtain ⟨r0, r1, g0, g1⟩ := two_cells RB.out
      obtain ⟨x0, x1, -, -⟩ := two_cells HX.out
      have HBF := HB
      go_wp2_with fail
      have hfin := two_set (a := .int .i64 m) (b := .slice (some ⟨w1.heap.size + 1, 0, none⟩) m m) RB.out
      rw [← HM.out, ← HNN.out]
      refine bodyPost_ret (v := .tuple #[.agg #[.int .i64 m, .slice (some ⟨w1.heap.size + 1, 0, none⟩) m m], .int .i64 0]) (results_cell2 (p := 2) (u := 3) (ty := 34) rfl _ _ w.heap.size 34 _ (0, 0) _ rfl hfin Tryd.underlying34 rfl (by exact info27)) rfl ⟨⟨_, rfl, ?_⟩, ?_⟩
      · have h := Own.of_blk ((HBF.out.other (a := ⟨w.heap.size, 0, none⟩) (by simp; omega) (.int .i64 m)).other (a := ⟨w.heap.size, 1, none⟩) (by simp; omega) (.slice (some ⟨w1.heap.size + 1, 0, none⟩) m m)) (B := w.heap.size) (by omega) (by rw [rowsF_length]; unfold maxLen; omega)
        rw [rowsF_length] at h
        exact h
      · exact ((E1.trans (hE.mono (by omega))).setCell (p := ⟨w.heap.size, 0, none⟩) (by simp) _).setCell (p := ⟨w.heap.size, 1, none⟩) (by simp) _

theorem specPl_any (x : Int) (w : World) :
    Calls Tryd.prog 29 #[.int .i64 x] w fun e w' => GRes w.heap.size (PlN x) (PlL x) (PlC x) e w' ∧ Below w.heap.size w w' := by
  cases h : isP x with
  | true =>
    rw [show PlN x = plN x.toNat by simp [PlN, h], show PlL x = plL x.toNat by simp [PlL, h], show PlC x = plC x.toNat by simp [PlC, h]]
    have h2 : x = 2 ∨ x = 3 ∨ x = 5 ∨ x = 7 := by simpa [isP] using h
    by_cases h7 : x = 7
    · subst h7
      exact specPl_far w
    · have e : ((x.toNat : Nat) : Int) = x := by omega
      have h3 : ¬ x.toNat = 7 := by omega
      have := specPl_yes x.toNat w (by omega)
      rw [e, kinds_same] at this
      unfold plN plL plC
      rw [if_neg h3, if_neg h3, if_neg h3]
      exact this
  | false =>
    rw [show PlN x = 0 by simp [PlN, h], show PlL x = [] by simp [PlL, h], show PlC x = 2 by simp [PlC, h]]
    exact specPl_no x w (by simpa [isP] using h)
end Go.Proofs.YtbfdhnecadgfdaaDoor
