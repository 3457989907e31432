/-
  spec.l04With, and the pairs of two kinds in the order of the model's loops. (A tied seat of graphs.)
-/
import Derived.Test.YtlodaeoikkjbkaaDoorUjT
import Derived.Deep.RegionWith
namespace Go.Proofs.YtlodaeoikkjbkaaDoor
set_option maxRecDepth 100000
open Go.RowKit

theorem specEmpty_at (N : Int) (len : Nat) (w : World) (hl : len ≤ 1048576) (eN : N = (len : Int)) :
    Calls Tryd.prog 47 #[.int .i64 N] w fun e w' => e = .returned (.agg #[.int .i64 len, .slice (some ⟨w.heap.size + 1, 0, none⟩) len len]) ∧ Blk w' (w.heap.size + 1) (List.replicate len 0) ∧ Below w.heap.size w w' := by
  subst eN
  exact specEmpty_any len w hl


set_option maxHeartbeats 1600000 in
theorem with_some (N : Int) (g m : Nat) (L : List Int) (a b : Nat) (w : World) (hm : L.length = m) (h : Blk w g L) (ha : a < m) (hb : b < m) (hl : m ≤ 62) (hz : ∀ i, i < m → 0 ≤ el L i ∧ el L i ≤ 2 ^ m - 1) :
    Calls Tryd.prog 48 #[.agg #[.int .i64 N, .slice (some ⟨g, 0, none⟩) m m], .int .i64 a, .int .i64 b] w fun e w' => e = .returned (.agg #[.int .i64 N, .slice (some ⟨g, 0, none⟩) m m]) ∧ Blk w' g (e_putL L a b) ∧ w.grownBy w' (some g) := by
  obtain ⟨W, hW⟩ : ∃ W, W = (w.alloc (.cells #[.int .i64 N, .slice (some ⟨g, 0, none⟩) m m] 28)).alloc (.cells #[.int .i64 0, .slice none 0 0] 28) := ⟨_, rfl⟩
  have HH : Hid (W.heap[w.heap.size]? = some (.cells #[.int .i64 N, .slice (some ⟨g, 0, none⟩) m m] 28 (0, 0))) := by rw [hW]; exact heap_old_at (World.alloc_heap_new w _) _
  have HR : Hid (W.heap[w.heap.size + 1]? = some (.cells #[.int .i64 0, .slice none 0 0] 28 (0, 0))) := by rw [hW]; exact heap_new_at _ _ _ (by simp)
  have HO : Hid (Blk W g L) := by rw [hW]; exact (h.alloc _).alloc _
  have HGr : Hid (w.grownBy W (some g)) := by rw [hW]; exact grown_trans (World.grownBy_alloc w _ _) (World.grownBy_alloc _ _ _)
  have hgl := h.lt
  have pm := pow_bounds m hl
  have hza := hz a ha
  have hL1 : (put1 L a b).length = m := by rw [put1_length]; exact hm
  have hzb : 0 ≤ el (put1 L a b) b ∧ el (put1 L a b) b ≤ 2 ^ m - 1 := by
    unfold put1
    by_cases e : a = b
    · subst e; rw [e_el_set_same _ _ _ (by omega)]; exact e_por_ok _ _ _ hza.2 ha
    · rw [e_el_set_ne _ _ _ _ e]; exact hz b hb
  have P1 := Lib.hid (e_por_or (el L a) b hza.1 (by omega) (by omega))
  have P2 := Lib.hid (e_por_or (el (put1 L a b) b) a hzb.1 (by omega) (by omega))
  have HM := Lib.hid hm; have HL1 := Lib.hid hL1
  clear h hm hL1
  go_enter Tryd.func48, Tryd.ntmps48
  obtain ⟨b0, b1, -, -⟩ := two_cells HH.out
  have c1 := HO.out.cell (i := a) (by rw [HM.out]; exact ha)
  have f1 : W.frozen? ⟨g, a, none⟩ = false := HO.out.frozen a
  have ha0 : (0 : Int) ≤ a := by omega
  have hb0 : (0 : Int) ≤ b := by omega
  have ham : (a : Int) < m := by omega
  have hbm : (b : Int) < m := by omega
  have qa := pow_bounds a (by omega)
  have qb := pow_bounds b (by omega)
  go_wp2_with fail
  rw [← hW]
  clear hW
  go_region
  rw [P1.out]
  obtain ⟨W2, hW2⟩ : ∃ W2, W2 = (W.setCell ⟨g, a, none⟩ (.int .i64 (e_por (el L a) b))).drew := ⟨_, rfl⟩
  have HO2 : Hid (Blk W2 g (put1 L a b)) := by rw [hW2]; exact HO.out.set a _
  have HG2 : Hid (W.grownBy W2 (some g)) := by rw [hW2]; exact grown_trans (grown_set ⟨rfl, rfl, rfl, Nat.le_refl _, fun _ _ _ => rfl⟩ _ a _) (e_grown_drew _ _)
  have HH2 := Lib.hid ((HG2.out.block w.heap.size (Array.getElem?_eq_some_iff.1 HH.out).1 (by simp; omega)).trans HH.out)
  have HR2 := Lib.hid ((HG2.out.block (w.heap.size + 1) (Array.getElem?_eq_some_iff.1 HR.out).1 (by simp; omega)).trans HR.out)
  rw [← hW2]
  clear hW2 b0 b1 c1 f1
  obtain ⟨b0, b1, -, -⟩ := two_cells HH2.out
  have c2 := HO2.out.cell (i := b) (by rw [HL1.out]; exact hb)
  have f2 : W2.frozen? ⟨g, b, none⟩ = false := HO2.out.frozen b
  go_wp2_with fail
  go_region
  rw [P2.out]
  obtain ⟨W3, hW3⟩ : ∃ W3, W3 = (W2.setCell ⟨g, b, none⟩ (.int .i64 (e_por (el (put1 L a b) b) a))).drew := ⟨_, rfl⟩
  have HO3 : Hid (Blk W3 g (e_putL L a b)) := by rw [hW3]; exact HO2.out.set b _
  have HG3 : Hid (W2.grownBy W3 (some g)) := by rw [hW3]; exact grown_trans (grown_set ⟨rfl, rfl, rfl, Nat.le_refl _, fun _ _ _ => rfl⟩ _ b _) (e_grown_drew _ _)
  have HH3 := Lib.hid ((HG3.out.block w.heap.size (Array.getElem?_eq_some_iff.1 HH2.out).1 (by simp; omega)).trans HH2.out)
  have HR3 := Lib.hid ((HG3.out.block (w.heap.size + 1) (Array.getElem?_eq_some_iff.1 HR2.out).1 (by simp; omega)).trans HR2.out)
  rw [← hW3]
  clear hW3 b0 b1 c2 f2
  obtain ⟨b0, b1, -, -⟩ := two_cells HH3.out
  obtain ⟨r0, r1, g0, g1⟩ := two_cells HR3.out
  go_wp2_with fail
  have hfin := two_set (a := .int .i64 N) (b := .slice (some ⟨g, 0, none⟩) m m) HR3.out
  refine bodyPost_ret (v := .agg #[.int .i64 N, .slice (some ⟨g, 0, none⟩) m m]) (results_cell_row (p := 6) (ty := 28) rfl _ _ (w.heap.size + 1) 28 _ (0, 0) _ rfl hfin Tryd.underlying28 rfl (by exact info27)) rfl ⟨rfl, ?_, ?_⟩
  · exact (HO3.out.other (by simp; omega) _).other (by simp; omega) _
  · have hg3 := grown_trans HGr.out (grown_trans HG2.out HG3.out)
    have hb3 : Below w.heap.size W3 ((W3.setCell ⟨w.heap.size + 1, 0, none⟩ (.int .i64 N)).setCell ⟨w.heap.size + 1, 1, none⟩ (.slice (some ⟨g, 0, none⟩) m m)) := ((Below.refl _ _).setCell (p := ⟨w.heap.size + 1, 0, none⟩) (by simp) _).setCell (p := ⟨w.heap.size + 1, 1, none⟩) (by simp) _
    exact ⟨hb3.os.trans hg3.os, hb3.tape.trans hg3.tape, hb3.output.trans hg3.output, Nat.le_trans hg3.size hb3.size, fun k hk hne => (hb3.block k hk).trans (hg3.block k hk hne)⟩

theorem with_at (N : Int) (g m : Nat) (S : List (Nat × Nat)) (a b : Nat) (ai bi : Int) (w : World) (h : Blk w g (rowsF m (adjS S))) (ha : a < m) (hb : b < m) (hl : m ≤ 62) (ea : ai = (a : Int)) (eb : bi = (b : Int)) :
    Calls Tryd.prog 48 #[.agg #[.int .i64 N, .slice (some ⟨g, 0, none⟩) m m], .int .i64 ai, .int .i64 bi] w fun e w' => e = .returned (.agg #[.int .i64 N, .slice (some ⟨g, 0, none⟩) m m]) ∧ Blk w' g (rowsF m (adjS (S ++ [(a, b)]))) ∧ w.grownBy w' (some g) := by
  subst ea; subst eb
  have := with_some N g m _ a b w (rowsF_length _ _) h ha hb hl (fun i hi => rowsF_bd m _ i hi)
  rw [rows_snoc m S a b ha hb] at this
  exact this
/-- The pairs (i, n + k) that f tells, in the order of the model's loops. -/
def inK (f : Nat → Nat → Bool) (n i : Nat) : Nat → List (Nat × Nat)
  | 0 => []
  | k + 1 => if f i k then inK f n i k ++ [(i, n + k)] else inK f n i k
def kS (f : Nat → Nat → Bool) (n : Nat) : Nat → List (Nat × Nat)
  | 0 => []
  | i + 1 => kS f n i ++ inK f n i n
theorem inK_yes {f : Nat → Nat → Bool} {n i k : Nat} (h : f i k = true) : inK f n i (k + 1) = inK f n i k ++ [(i, n + k)] := by simp [inK, h]
theorem inK_no {f : Nat → Nat → Bool} {n i k : Nat} (h : f i k = false) : inK f n i (k + 1) = inK f n i k := by simp [inK, h]
theorem inK_iff (f : Nat → Nat → Bool) (n i : Nat) : ∀ k p, p ∈ inK f n i k ↔ p.1 = i ∧ n ≤ p.2 ∧ p.2 < n + k ∧ f i (p.2 - n) = true
  | 0, p => by
    simp only [inK, List.not_mem_nil, false_iff]
    omega
  | k + 1, p => by
    have ih := inK_iff f n i k p
    cases e : f i k with
    | true =>
      rw [inK_yes e, List.mem_append, List.mem_singleton, ih]
      constructor
      · rintro (⟨h1, h2, h3, h4⟩ | rfl)
        · exact ⟨h1, h2, by omega, h4⟩
        · exact ⟨rfl, by simp only; omega, by simp only; omega, by simp only [Nat.add_sub_cancel_left]; exact e⟩
      · rintro ⟨h1, h2, h3, h4⟩
        by_cases h : p.2 = n + k
        · exact .inr (Prod.ext h1 h)
        · exact .inl ⟨h1, h2, by omega, h4⟩
    | false =>
      rw [inK_no e, ih]
      constructor
      · rintro ⟨h1, h2, h3, h4⟩
        exact ⟨h1, h2, by omega, h4⟩
      · rintro ⟨h1, h2, h3, h4⟩
        refine ⟨h1, h2, ?_, h4⟩
        by_cases h : p.2 = n + k
        · rw [h, Nat.add_sub_cancel_left, e] at h4; cases h4
        · omega
theorem kS_iff (f : Nat → Nat → Bool) (n : Nat) : ∀ m p, p ∈ kS f n m ↔ p.1 < m ∧ n ≤ p.2 ∧ p.2 < n + n ∧ f p.1 (p.2 - n) = true
  | 0, p => by simp [kS]
  | m + 1, p => by
    rw [kS, List.mem_append, kS_iff f n m p, inK_iff f n m n p]
    constructor
    · rintro (⟨h1, h2⟩ | ⟨h1, h2⟩)
      · exact ⟨by omega, h2⟩
      · rw [h1]; exact ⟨Nat.lt_succ_self _, h2⟩
    · rintro ⟨h1, h2⟩
      by_cases h : p.1 = m
      · rw [h] at h2; exact .inr ⟨h, h2⟩
      · exact .inl ⟨by omega, h2⟩
theorem adjS_congr {S T : List (Nat × Nat)} (h : ∀ p, p ∈ S ↔ p ∈ T) : adjS S = adjS T := by
  funext v w
  rw [Bool.eq_iff_iff, adjS_iff, adjS_iff]
  exact ⟨fun ⟨p, hp, r⟩ => ⟨p, (h p).1 hp, r⟩, fun ⟨p, hp, r⟩ => ⟨p, (h p).2 hp, r⟩⟩
theorem kinds_same (f : Nat → Nat → Bool) (n : Nat) : adjS (kS f n n) = adjS (whereS (kF n f) (2 * n)) := adjS_congr fun p => by
  rw [kS_iff, whereS_iff]
  unfold kF
  simp only [Bool.and_eq_true, decide_eq_true_eq]
  constructor
  · rintro ⟨h1, h2, h3, h4⟩
    exact ⟨by omega, by omega, h1, h2, h4⟩
  · rintro ⟨h1, h2, h3, h4, h5⟩
    exact ⟨h3, h4, by omega, h5⟩

end Go.Proofs.YtlodaeoikkjbkaaDoor
