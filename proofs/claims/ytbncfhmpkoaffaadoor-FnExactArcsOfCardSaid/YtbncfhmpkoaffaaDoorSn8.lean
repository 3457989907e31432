/-
  Lists of pairs in lists of lists, and the arcs of a digraph: plain facts. (gen/mk_sn8.py, of Eo7 and Es7)
-/
import Derived.Test.YtbncfhmpkoaffaaDoorTl7
import Derived.Test.YtbncfhmpkoaffaaDoorRv8
import Derived.Test.YtbncfhmpkoaffaaDoorTurn
import Derived.Maps.OwnIn
namespace Go.Proofs.YtbncfhmpkoaffaaDoor
set_option maxRecDepth 100000
set_option maxRecDepth 100000
open Go.RowKit Go.Shelf

/-- A pair as a list. -/
def prI (p : Nat × Nat) : List Int := [(p.1 : Int), (p.2 : Int)]
/-- What holds when a pair has been appended to the list of lists in box E. -/
theorem snoc_end {E B : Nat} {t : TypeId} {W5 w8 : World} {x y : Int} {u l3 : Value} {Lp : List (List Int)} {cs : List Value} (hbx : Bx W5 E t u) (hE : E < B) (hT : TLc W5 B u Lp cs) (hB5 : B ≤ W5.heap.size)
    (hown8 : w8.ownsRow B 22 1 l3 (Lp.length + 1) (cs ++ [.slice (some ⟨W5.heap.size, 0, none⟩) 2 2]))
    (hgr8 : ((W5.alloc (.cells #[.int .i64 x, .int .i64 y] 2)).alloc (.cells #[.slice (some ⟨W5.heap.size, 0, none⟩) 2 2] 22)).grownBy w8 u.ownBlock)
    (hloc : l3.ownBlock = u.ownBlock ∨ l3.ownBlock = some (W5.heap.size + 2)) :
    Bx w8 E t u ∧ KeepsOthers W5 (w8.setCell ⟨E, 0, none⟩ l3) ∧ Bx (w8.setCell ⟨E, 0, none⟩ l3) E t l3 ∧ TL (w8.setCell ⟨E, 0, none⟩ l3) B l3 (Lp ++ [[x, y]]) ∧ (∀ B0, B0 ≤ E → Below B0 W5 (w8.setCell ⟨E, 0, none⟩ l3)) ∧
      (∀ k, k < W5.heap.size → k ≠ E → u.ownBlock ≠ some k → (w8.setCell ⟨E, 0, none⟩ l3).heap[k]? = W5.heap[k]?) ∧ W5.heap.size + 2 < (w8.setCell ⟨E, 0, none⟩ l3).heap.size + 1 := by
  obtain ⟨W6, hW6⟩ : ∃ W6, W6 = W5.alloc (.cells #[.int .i64 x, .int .i64 y] 2) := ⟨_, rfl⟩
  obtain ⟨W7, hW7⟩ : ∃ W7, W7 = W6.alloc (.cells #[.slice (some ⟨W5.heap.size, 0, none⟩) 2 2] 22) := ⟨_, rfl⟩
  have s6 : W6.heap.size = W5.heap.size + 1 := by rw [hW6]; simp
  have s7 : W7.heap.size = W5.heap.size + 2 := by rw [hW7]; simp [s6]
  have hO6 : Own W6 B (.slice (some ⟨W5.heap.size, 0, none⟩) 2 2) [x, y] := by
    rw [hW6]; exact Own.of_blk (Blk.new W5 [x, y]) hB5 (by unfold maxLen; simp)
  have B7 : Below W5.heap.size W5 W7 := by rw [hW7, hW6]; exact ((Below.refl _ _).alloc (Nat.le_refl _) _).alloc (by simp) _
  have hO7 : Own W7 B (.slice (some ⟨W5.heap.size, 0, none⟩) 2 2) [x, y] := by rw [hW7]; exact hO6.below ((Below.refl _ W6).alloc (Nat.le_refl _) _)
  rw [← hW6, ← hW7] at hgr8
  have s8 := hgr8.size
  have hub : ∀ k, u.ownBlock = some k → B ≤ k ∧ k < W5.heap.size := fun k e => World.ownsRow.lt hT.1.1 k e
  have hEl := hbx.lt
  have hbx8 : Bx w8 E t u := (hgr8.block _ (by omega) (fun e => by have := (hub _ e.symm).1; omega)).trans ((B7.block _ hEl).trans hbx)
  have hT7 := hT.below B7
  have hTL8 : TL w8 B l3 (Lp ++ [[x, y]]) := by
    refine hT7.snoc (H := W5.heap.size) hO7 ?_ (fun e => by cases e) hown8 hgr8 ?_ (fun i y k hy hk => hT.lt hy hk) (fun k e => ?_)
    · refine .inr fun e => ?_
      have := (hub W5.heap.size e.symm).2
      omega
    · rw [s7]; exact hloc
    · obtain rfl : W5.heap.size = k := by simpa [Value.ownBlock] using e
      exact Nat.le_refl _
  have hg9 := grown_setP w8 E 0 l3
  have s9 := hg9.size
  refine ⟨hbx8, ?_, hbx8.set _, hTL8.low hg9 hE, fun B0 h0 => ?_, fun k hk hkE hku => ?_, by omega⟩
  · refine ((KeepsOthers.of_grownBy (row := none) (grown_of_below B7 none) (fun j o e => by cases e)).trans (KeepsOthers.of_grownBy hgr8 (fun j o e ho => ?_))).trans (KeepsOthers.setCell _ _ _)
    obtain ⟨o2, h1, h2⟩ := ownsRow_cells hT7.1.1 j e
    rw [ho] at h1; cases h1; exact h2
  · exact ((B7.mono (by omega)).grown hgr8 (by omega) (fun k e => by have := (hub k e).1; omega)).setCell (p := ⟨E, 0, none⟩) (by simpa using h0) _
  · exact (hg9.block _ (by omega) (fun e => by cases e; exact hkE rfl)).trans ((hgr8.block _ (by omega) (fun e => hku e.symm)).trans (B7.block _ hk))

/-- What holds when a pair has been appended to a list of lists. -/
theorem ts_end {B : Nat} {W5 w8 : World} {x y : Int} {u l3 : Value} {Lp : List (List Int)} {cs : List Value} (hT : TSc W5 B u Lp cs) (hB5 : B ≤ W5.heap.size)
    (hown8 : w8.ownsRow B 22 1 l3 (Lp.length + 1) (cs ++ [.slice (some ⟨W5.heap.size, 0, none⟩) 2 2]))
    (hgr8 : ((W5.alloc (.cells #[.int .i64 x, .int .i64 y] 2)).alloc (.cells #[.slice (some ⟨W5.heap.size, 0, none⟩) 2 2] 22)).grownBy w8 u.ownBlock)
    (hloc : l3.ownBlock = u.ownBlock ∨ l3.ownBlock = some (W5.heap.size + 2)) :
    TS w8 B l3 (Lp ++ [[x, y]]) ∧ ∀ B0, B0 ≤ B → Below B0 W5 w8 := by
  obtain ⟨W6, hW6⟩ : ∃ W6, W6 = W5.alloc (.cells #[.int .i64 x, .int .i64 y] 2) := ⟨_, rfl⟩
  obtain ⟨W7, hW7⟩ : ∃ W7, W7 = W6.alloc (.cells #[.slice (some ⟨W5.heap.size, 0, none⟩) 2 2] 22) := ⟨_, rfl⟩
  have s6 : W6.heap.size = W5.heap.size + 1 := by rw [hW6]; simp
  have s7 : W7.heap.size = W5.heap.size + 2 := by rw [hW7]; simp [s6]
  have hO6 : Own W6 B (.slice (some ⟨W5.heap.size, 0, none⟩) 2 2) [x, y] := by
    rw [hW6]; exact Own.of_blk (Blk.new W5 [x, y]) hB5 (by unfold maxLen; simp)
  have B7 : Below W5.heap.size W5 W7 := by rw [hW7, hW6]; exact ((Below.refl _ _).alloc (Nat.le_refl _) _).alloc (by simp) _
  have hO7 : Own W7 B (.slice (some ⟨W5.heap.size, 0, none⟩) 2 2) [x, y] := by rw [hW7]; exact hO6.below ((Below.refl _ W6).alloc (Nat.le_refl _) _)
  rw [← hW6, ← hW7] at hgr8
  have hub : ∀ k, u.ownBlock = some k → B ≤ k ∧ k < W5.heap.size := fun k e => World.ownsRow.lt hT.1 k e
  refine ⟨(hT.below B7).snoc hO7 (.inr fun e => ?_) (fun e => by cases e) hown8 hgr8 (by rw [s7]; exact hloc), fun B0 h0 => (B7.mono (by omega)).grown hgr8 (by omega) (fun k e => by have := (hub k e).1; omega)⟩
  have := (hub W5.heap.size e.symm).2
  omega

theorem filter_end {p : Nat → Bool} {n : Nat} (h : ∀ y, n ≤ y → p y = false) : ∀ m, n ≤ m → (List.range m).filter p = (List.range n).filter p := by
  intro m hm
  induction m with
  | zero => obtain rfl : n = 0 := (by omega); rfl
  | succ m ih =>
    by_cases e : n ≤ m
    · rw [List.range_succ, List.filter_append, ih e]; simp [h m e]
    · obtain rfl : n = m + 1 := (by omega); rfl

/-- The arcs from the first k vertices. -/
def acP (zs : List Int) : Nat → List (Nat × Nat)
  | 0 => []
  | k + 1 => acP zs k ++ (mem (nat zs k)).map fun y => (k, y)
theorem acP_succ (zs : List Int) (k : Nat) : acP zs (k + 1) = acP zs k ++ (mem (nat zs k)).map fun y => (k, y) := rfl
theorem acP_len (zs : List Int) : ∀ k, (acP zs k).length ≤ 64 * k
  | 0 => Nat.le_refl _
  | k + 1 => by
    rw [acP_succ, List.length_append, List.length_map]
    have h1 := acP_len zs k
    have h2 : (mem (nat zs k)).length ≤ 64 := mem_len64P _
    omega
def ArLL (zs : List Int) : List (List Int) := (acP zs zs.length).map prI
/-- The arcs ahead of the pair k, y. -/
def arW (zs : List Int) (k y : Nat) : List (Nat × Nat) := acP zs k ++ ((List.range y).filter fun j => (nat zs k).testBit j).map fun j => (k, j)
theorem arW_start (zs : List Int) (k : Nat) : arW zs k 0 = acP zs k := by simp [arW]
theorem arW_yes {zs : List Int} {k y : Nat} (hb : (nat zs k).testBit y = true) : arW zs k (y + 1) = arW zs k y ++ [(k, y)] := by
  unfold arW; rw [List.range_succ, List.filter_append]; simp [hb]
theorem arW_no {zs : List Int} {k y : Nat} (hb : (nat zs k).testBit y = false) : arW zs k (y + 1) = arW zs k y := by
  unfold arW; rw [List.range_succ, List.filter_append]; simp [hb]
theorem arW_end {zs : List Int} {k : Nat} (h62 : zs.length ≤ 62) (hz : nat zs k < 2 ^ zs.length) : arW zs k zs.length = acP zs (k + 1) := by
  rw [acP_succ]
  unfold arW
  congr 2
  unfold mem
  rw [filter_end (n := zs.length) (fun y hy => ?_) 64 (by omega)]
  exact Nat.testBit_lt_two_pow (Nat.lt_of_lt_of_le hz (Nat.pow_le_pow_right (by decide) hy))
theorem arW_len {zs : List Int} {k y : Nat} (h62 : zs.length ≤ 62) (hk : k < zs.length) (hy : y ≤ 62) : (arW zs k y).length ≤ 4100 := by
  unfold arW
  rw [List.length_append, List.length_map]
  have h1 := acP_len zs k
  have h2 := List.length_filter_le (fun j => (nat zs k).testBit j) (List.range y)
  rw [List.length_range] at h2
  omega
/-- A list of lists stays where the loops' records alone turn. -/
theorem TL.marks {W W' : World} {B H : Nat} {v : Value} {Ts : List (List Int)} {Ds : List Nat} (h : TL W B v Ts) (hD : DsOk H W Ds) (hs : ∀ k, k ∉ Ds → W'.heap[k]? = W.heap[k]?) : TL W' B v Ts := by
  have far : ∀ {t : TypeId} {s n : Nat} {x : Value} {xs : List Value}, W.ownsRow B t s x n xs → W'.ownsRow B t s x n xs := fun {t s n x xs} hx =>
    ⟨hx.1, hx.2.imp id fun ⟨g, cap, cur, e, hB, hg, r⟩ => ⟨g, cap, cur, e, hB, (hs g fun hm => by rw [(hD.2 g hm).2] at hg; cases hg).trans hg, r⟩⟩
  obtain ⟨cs, ⟨h1, h2, h3⟩, h4⟩ := h
  refine ⟨cs, ⟨far h1, h2, fun i hi => ?_⟩, h4⟩
  obtain ⟨u, a, b, c⟩ := h3 i hi
  exact ⟨u, a, far b, c⟩
theorem TL.notMark {W : World} {B : Nat} {v : Value} {Ts : List (List Int)} {cs : List Value} {Ds : List Nat} (h : TLc W B v Ts cs) (hD : ∀ D, D ∈ Ds → W.heap[D]? = some (.deferred (some []))) (D : Nat) (hm : D ∈ Ds) : v.ownBlock ≠ some D := fun e => by
  obtain ⟨o, h1, h2⟩ := ownsRow_cells h.1.1 D e
  rw [hD D hm] at h1; cases h1; cases h2
end Go.Proofs.YtbncfhmpkoaffaaDoor
