/-
  impl.pointsOf.
-/
import Derived.Test.YtbfdhnecadgfdaaDoorTv
import Derived.Test.YtbfdhnecadgfdaaDoorSu
namespace Go.Proofs.YtbfdhnecadgfdaaDoor
set_option maxRecDepth 100000
open Go.RowKit Go.Maps Go.WideMaps Go.WideElems

/-- A triple times a number. -/
def mulT (q : Nat) (t : List Int) (y : Nat) : List Int := t.map fun z => z * (y : Int) % (q : Int)
/-- One tuple met: a new point, and its multiples, unless it is a multiple already. -/
def stepP (q : Nat) (s : List (List Int) × List (List Int)) (t : List Int) : List (List Int) × List (List Int) :=
  if s.2.contains t then s else (s.1 ++ [t], s.2 ++ (List.range q).map (mulT q t))
def runP (q : Nat) (ts : List (List Int)) : List (List Int) × List (List Int) := ts.foldl (stepP q) ([], [[0, 0, 0]])
theorem take_elS (T : List (List Int)) (i : Nat) (h : i < T.length) : T.take (i + 1) = T.take i ++ [elS T i] := by
  rw [List.take_succ_eq_append_getElem h]; simp [elS, h]
theorem runP_succ (q : Nat) (T : List (List Int)) (i : Nat) (h : i < T.length) : runP q (T.take (i + 1)) = stepP q (runP q (T.take i)) (elS T i) := by
  unfold runP; rw [take_elS T i h, List.foldl_append]; rfl
theorem stepP_yes {q : Nat} {s : List (List Int) × List (List Int)} {t : List Int} (h : s.2.contains t = true) : stepP q s t = s := by unfold stepP; rw [if_pos h]
theorem stepP_no {q : Nat} {s : List (List Int) × List (List Int)} {t : List Int} (h : s.2.contains t = false) : stepP q s t = (s.1 ++ [t], s.2 ++ (List.range q).map (mulT q t)) := by unfold stepP; rw [if_neg (by rw [h]; simp)]

/-- A triple of numbers below 7. -/
def Tri (t : List Int) : Prop := t.length = 3 ∧ ∀ i, 0 ≤ el t i ∧ el t i ≤ 6
theorem Tri.small {t : List Int} (h : Tri t) : Small t := ⟨h.1, fun i => by have := h.2 i; omega⟩
theorem tri_mul {q : Nat} {t : List Int} (hq : 2 ≤ q ∧ q ≤ 7) (h : Tri t) (y : Nat) : Tri (mulT q t y) := by
  refine ⟨by simp [mulT, h.1], fun i => ?_⟩
  by_cases hi : i < t.length
  · have : el (mulT q t y) i = el t i * (y : Int) % (q : Int) := by simp [el, mulT, hi]
    rw [this]
    exact rest_bd (by omega)
  · have : el (mulT q t y) i = 0 := by simp [el, mulT, hi]
    rw [this]; omega
theorem el_mul (q : Nat) (t : List Int) (y i : Nat) (h : i < t.length) : el (mulT q t y) i = el t i * (y : Int) % (q : Int) := by simp [el, mulT, h]
theorem tups_tri (m : Nat) (hm : m ≤ 7) : ∀ k, ∀ t, t ∈ tups m k → ∀ i, 0 ≤ el t i ∧ el t i ≤ 6
  | 0, t, h, i => by simp [tups] at h; subst h; simp [el]
  | k + 1, t, h, i => by
    simp only [tups, List.mem_flatMap, extL, List.mem_map, List.mem_range] at h
    obtain ⟨s, hs, y, hy, rfl⟩ := h
    have hl := tups_lengths m k s hs
    by_cases h1 : i < s.length
    · have : el (s ++ [(y : Int)]) i = el s i := by unfold el; rw [List.getD_eq_getElem?_getD, List.getD_eq_getElem?_getD, List.getElem?_append_left h1]
      rw [this]; exact tups_tri m hm k s hs i
    · by_cases h2 : i = s.length
      · subst h2
        have : el (s ++ [(y : Int)]) s.length = y := by simp [el]
        rw [this]; omega
      · have : el (s ++ [(y : Int)]) i = 0 := by unfold el; rw [List.getD_eq_getElem?_getD, List.getElem?_eq_none (by simp; omega)]; rfl
        rw [this]; omega
theorem tri_at (q i : Nat) (hq : q ≤ 7) (h : i < (tups q 3).length) : Tri (elS (tups q 3) i) := by
  have hm : elS (tups q 3) i ∈ tups q 3 := by simp [elS, h]
  exact ⟨tups_lengths q 3 _ hm, tups_tri q hq 3 _ hm⟩
theorem runP_small (q : Nat) (hq : 2 ≤ q ∧ q ≤ 7) : ∀ i, i ≤ (tups q 3).length → (∀ s, s ∈ (runP q ((tups q 3).take i)).2 → Small s) ∧ (runP q ((tups q 3).take i)).2.length ≤ 1 + 7 * i ∧ (runP q ((tups q 3).take i)).1.length ≤ i
  | 0, _ => by
    refine ⟨fun s hs => ?_, by simp [runP], by simp [runP]⟩
    simp [runP] at hs; subst hs
    exact (show Tri [0, 0, 0] from ⟨rfl, fun i => by
      have : el [0, 0, 0] i = 0 := by
        match i with
        | 0 => rfl
        | 1 => rfl
        | 2 => rfl
        | n + 3 => rfl
      rw [this]; omega⟩).small
  | i + 1, hi => by
    obtain ⟨h1, h2, h3⟩ := runP_small q hq i (by omega)
    rw [runP_succ q _ i (by omega)]
    have ht := tri_at q i hq.2 (by omega)
    cases hc : (runP q ((tups q 3).take i)).2.contains (elS (tups q 3) i) with
    | true => rw [stepP_yes hc]; exact ⟨h1, by omega, by omega⟩
    | false =>
      rw [stepP_no hc]
      refine ⟨fun s hs => ?_, by simp; omega, by simp; omega⟩
      rcases List.mem_append.1 hs with hs | hs
      · exact h1 s hs
      · obtain ⟨y, _, rfl⟩ := List.mem_map.1 hs
        exact (tri_mul hq ht y).small

/-- The cells of some triples. -/
def cellsP (ps : List (List Int)) : List Value := ps.flatMap fun t => [.int .i64 (el t 0), .int .i64 (el t 1), .int .i64 (el t 2)]
/-- The slice v owns, from block B on, the points ps. -/
def PO (w : World) (B : Nat) (v : Value) (ps : List (List Int)) : Prop := w.ownsRow B 53 3 v ps.length (cellsP ps)
theorem PO.nil (w : World) (B : Nat) : PO w B (.slice none 0 0) [] := World.ownsRow_nil w B _ 3
theorem PO.kept {w w' : World} {B : Nat} {v : Value} {ps : List (List Int)} {row : Option Nat} (h : PO w B v ps) (hg : w.grownBy w' row) (hne : v.ownBlock = none ∨ v.ownBlock ≠ row) : PO w' B v ps := World.ownsRow.kept h hg hne
theorem PO.below {w w' : World} {B : Nat} {v : Value} {ps : List (List Int)} (h : PO w B v ps) (hb : Below w.heap.size w w') : PO w' B v ps := h.kept (grown_of_below hb none) (by cases v.ownBlock <;> simp)
theorem info3P : (Tryd.prog.info? 53).map (fun i => (i.zero, i.size, i.bytes)) = some (some (.agg #[.int .i64 0, .int .i64 0, .int .i64 0]), 3, 24) := by kernel_rfl

theorem Rng.below {w1 w w' : World} {lo hi : Nat} (h : Rng w1 w lo hi) (hb : Below w.heap.size w w') : Rng w1 w' lo hi :=
  ⟨hb.os.trans h.1, hb.tape.trans h.2.1, hb.output.trans h.2.2.1, Nat.le_trans h.2.2.2.1 hb.size, fun k hk ho => (hb.block k (Nat.lt_of_lt_of_le hk h.2.2.2.1)).trans (h.2.2.2.2 k hk ho)⟩
theorem Rng.far {w1 w w' : World} {lo hi : Nat} {row : Option Nat} (h : Rng w1 w lo hi) (hg : w.grownBy w' row) (hr : ∀ g, row = some g → w1.heap.size ≤ g) : Rng w1 w' lo hi :=
  ⟨hg.os.trans h.1, hg.tape.trans h.2.1, hg.output.trans h.2.2.1, Nat.le_trans h.2.2.2.1 hg.size, fun k hk ho => (hg.block k (Nat.lt_of_lt_of_le hk h.2.2.2.1) (fun e => by have := hr k e.symm; omega)).trans (h.2.2.2.2 k hk ho)⟩
theorem Rng.cell {w w' : World} {lo hi k o : Nat} (h : Rng w w' lo hi) (hk : k < w.heap.size) (ho : k < lo ∨ hi ≤ k) : w'.cell? ⟨k, o, none⟩ = w.cell? ⟨k, o, none⟩ := by
  unfold World.cell?
  simp only [h.2.2.2.2 k hk ho]

theorem cells_three_new (w : World) (x y z : Value) (t : TypeId) : ∀ j u, [x, y, z][j]? = some u → (w.alloc (.cells #[x, y, z] t)).cell? ((⟨w.heap.size, 0, none⟩ : Addr).add j) = some u := by
  intro j u hj
  have h := World.alloc_heap_new w (.cells #[x, y, z] t)
  obtain ⟨⟨h0, h1, h2⟩, -⟩ := three_at h
  match j, hj with
  | 0, hj => cases hj; exact h0
  | 1, hj => cases hj; exact h1
  | 2, hj => cases hj; exact h2
end Go.Proofs.YtbfdhnecadgfdaaDoor
