/-
  impl.EdgesOf.
-/
import Derived.Test.YtibpnemeehkdbaaDoorTl7
import Derived.Test.YtibpnemeehkdbaaDoorEi
import Derived.Maps.OwnIn
namespace Go.Proofs.YtibpnemeehkdbaaDoor
set_option maxRecDepth 100000
set_option maxRecDepth 100000
open Go.RowKit Go.Shelf

attribute [local go_sem] Oper.semAt_some

/-- A pair as a list. -/
def prI (p : Nat × Nat) : List Int := [(p.1 : Int), (p.2 : Int)]
/-- What holds when a pair has been appended to the list of lists in box E. -/
theorem snoc_end {E B : Nat} {t : TypeId} {W5 w8 : World} {x y : Int} {u l3 : Value} {Lp : List (List Int)} {cs : List Value} (hbx : Bx W5 E t u) (hE : E < B) (hT : TLc W5 B u Lp cs) (hB5 : B ≤ W5.heap.size)
    (hown8 : w8.ownsRow B 22 1 l3 (Lp.length + 1) (cs ++ [.slice (some ⟨W5.heap.size, 0, none⟩) 2 2]))
    (hgr8 : ((W5.alloc (.cells #[.int .i64 x, .int .i64 y] 2)).alloc (.cells #[.slice (some ⟨W5.heap.size, 0, none⟩) 2 2] 22)).grownBy w8 u.ownBlock)
    (hloc : l3.ownBlock = u.ownBlock ∨ l3.ownBlock = some (W5.heap.size + 2)) :
    Bx w8 E t u ∧ KeepsOthers W5 (w8.setCell ⟨E, 0, none⟩ l3) ∧ Bx (w8.setCell ⟨E, 0, none⟩ l3) E t l3 ∧ TL (w8.setCell ⟨E, 0, none⟩ l3) B l3 (Lp ++ [[x, y]]) ∧ (∀ B0, B0 ≤ E → Below B0 W5 (w8.setCell ⟨E, 0, none⟩ l3)) ∧
      (∀ k, k < W5.heap.size → k ≠ E → u.ownBlock ≠ some k → (w8.setCell ⟨E, 0, none⟩ l3).heap[k]? = W5.heap[k]?) ∧ W5.heap.size + 2 < (w8.setCell ⟨E, 0, none⟩ l3).heap.size + 1 := by
  obtain ⟨W6, hW6⟩ : ∃ W6, W6 = W5.alloc (.cells #[.int .i64 x, .int .i64 y] 2) := ⟨_, rfl⟩
  obtain ⟨W7, hW7⟩ : ∃ W7, W7 = W6.alloc (.cells #[.slice (some ⟨W5.heap.size, 0, none⟩) 2 2] 22) := ⟨_, rfl⟩
  have s6 : W6.heap.size = W5.heap.size + 1 := by rw [hW6]; simp
  have s7 : W7.heap.size = W5.heap.size + 2 := by rw [hW7]; simp [s6]
  have hO6 : Own W6 B (.slice (some ⟨W5.heap.size, 0, none⟩) 2 2) [x, y] := by
    rw [hW6]; exact Own.of_blk (Blk.new W5 [x, y]) hB5 (by unfold maxLen; simp)
  have B7 : Below W5.heap.size W5 W7 := by rw [hW7, hW6]; exact ((Below.refl _ _).alloc (Nat.le_refl _) _).alloc (by simp) _
  have hO7 : Own W7 B (.slice (some ⟨W5.heap.size, 0, none⟩) 2 2) [x, y] := by rw [hW7]; exact hO6.below ((Below.refl _ W6).alloc (Nat.le_refl _) _)
  rw [← hW6, ← hW7] at hgr8
  have s8 := hgr8.size
  have hub : ∀ k, u.ownBlock = some k → B ≤ k ∧ k < W5.heap.size := fun k e => World.ownsRow.lt hT.1.1 k e
  have hEl := hbx.lt
  have hbx8 : Bx w8 E t u := (hgr8.block _ (by omega) (fun e => by have := (hub _ e.symm).1; omega)).trans ((B7.block _ hEl).trans hbx)
  have hT7 := hT.below B7
  have hTL8 : TL w8 B l3 (Lp ++ [[x, y]]) := by
    refine hT7.snoc (H := W5.heap.size) hO7 ?_ (fun e => by cases e) hown8 hgr8 ?_ (fun i y k hy hk => hT.lt hy hk) (fun k e => ?_)
    · refine .inr fun e => ?_
      have := (hub W5.heap.size e.symm).2
      omega
    · rw [s7]; exact hloc
    · obtain rfl : W5.heap.size = k := by simpa [Value.ownBlock] using e
      exact Nat.le_refl _
  have hg9 := grown_setP w8 E 0 l3
  have s9 := hg9.size
  refine ⟨hbx8, ?_, hbx8.set _, hTL8.low hg9 hE, fun B0 h0 => ?_, fun k hk hkE hku => ?_, by omega⟩
  · refine ((KeepsOthers.of_grownBy (row := none) (grown_of_below B7 none) (fun j o e => by cases e)).trans (KeepsOthers.of_grownBy hgr8 (fun j o e ho => ?_))).trans (KeepsOthers.setCell _ _ _)
    obtain ⟨o2, h1, h2⟩ := ownsRow_cells hT7.1.1 j e
    rw [ho] at h1; cases h1; exact h2
  · exact ((B7.mono (by omega)).grown hgr8 (by omega) (fun k e => by have := (hub k e).1; omega)).setCell (p := ⟨E, 0, none⟩) (by simpa using h0) _
  · exact (hg9.block _ (by omega) (fun e => by cases e; exact hkE rfl)).trans ((hgr8.block _ (by omega) (fun e => hku e.symm)).trans (B7.block _ hk))

def EdLL (zs : List Int) : List (List Int) := (edL zs).map prI
theorem edP_len (zs : List Int) (h62 : zs.length ≤ 62) : ∀ k, (edP zs k).length ≤ 64 * k
  | 0 => Nat.le_refl _
  | k + 1 => by
    rw [edP_succ, List.length_append, List.length_map]
    have h1 := edP_len zs h62 k
    have h2 : (mem (hiN zs k)).length ≤ 64 := mem_len64P _
    omega

def EoL (n : Int) (zs : List Int) : List (List Int) := if isG n zs then EdLL zs else []
def EoC (n : Int) (zs : List Int) : Int := if isG n zs then 0 else 1

end Go.Proofs.YtibpnemeehkdbaaDoor
