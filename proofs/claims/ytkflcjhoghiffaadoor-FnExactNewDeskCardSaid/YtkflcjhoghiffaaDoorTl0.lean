/-
  Lists of lists that a call gathers by append, each in a block of its own (a tied seat on the plain base). (gen: of Tl7)
-/
import Derived.Test.YtkflcjhoghiffaaDoorTp
import Derived.Test.YtkflcjhoghiffaaDoorRr
import Derived.Test.YtkflcjhoghiffaaDoorMk
import Derived.RangeFuncWrites
import Derived.Deep.AppendLies
import Derived.Maps.AppendAt
namespace Go.Proofs.YtkflcjhoghiffaaDoor
set_option maxRecDepth 100000
set_option maxRecDepth 100000
open Go.RowKit Go.Shelf

/-- As TSc, and no two of the lists lie in one block. -/
def TLc (w : World) (B : Nat) (v : Value) (Ts : List (List Int)) (cs : List Value) : Prop := TSc w B v Ts cs ∧
  ∀ (i j : Nat) (x y : Value) (b : Nat), i ≠ j → cs[i]? = some x → cs[j]? = some y → x.ownBlock = some b → y.ownBlock ≠ some b
def TL (w : World) (B : Nat) (v : Value) (Ts : List (List Int)) : Prop := ∃ cs : List Value, TLc w B v Ts cs
theorem TL.ts {w : World} {B : Nat} {v : Value} {Ts : List (List Int)} (h : TL w B v Ts) : TS w B v Ts := by obtain ⟨cs, h, _⟩ := h; exact ⟨cs, h⟩
theorem ownsRow_cells {w : World} {B : Nat} {t : TypeId} {s n : Nat} {v : Value} {xs : List Value} (h : w.ownsRow B t s v n xs) : ∀ k, v.ownBlock = some k → ∃ o : Obj, w.heap[k]? = some o ∧ o.isCells = true := by
  intro k e
  rcases h.2 with ⟨rfl, _⟩ | ⟨g, cap, cur, rfl, _, hgb, _⟩
  · cases e
  · obtain rfl : g = k := by simpa [Value.ownBlock] using e
    exact ⟨_, hgb, rfl⟩
theorem row_far {w : World} {B : Nat} {t : TypeId} {s n : Nat} {v : Value} {xs : List Value} {row : Option Nat} (h : w.ownsRow B t s v n xs) (hrow : ∀ r, row = some r → ∃ o : Obj, w.heap[r]? = some o ∧ o.isCells = false) : v.ownBlock = none ∨ v.ownBlock ≠ row := by
  cases e : v.ownBlock with
  | none => exact .inl rfl
  | some k =>
    refine .inr fun e2 => ?_
    obtain ⟨o, h1, h2⟩ := ownsRow_cells h k e
    obtain ⟨o2, h3, h4⟩ := hrow k e2.symm
    rw [h1] at h3; cases h3; rw [h2] at h4; cases h4
theorem TL.kept {w w' : World} {B : Nat} {v : Value} {Ts : List (List Int)} {row : Option Nat} (h : TL w B v Ts) (hg : w.grownBy w' row) (hrow : ∀ r, row = some r → ∃ o : Obj, w.heap[r]? = some o ∧ o.isCells = false) : TL w' B v Ts := by
  obtain ⟨cs, ⟨h1, h2, h3⟩, h4⟩ := h
  refine ⟨cs, ⟨World.ownsRow.kept h1 hg (row_far h1 hrow), h2, fun i hi => ?_⟩, h4⟩
  obtain ⟨u, a, b, c⟩ := h3 i hi
  exact ⟨u, a, b.kept hg (row_far b hrow), c⟩
theorem TLc.below {w w' : World} {B : Nat} {v : Value} {Ts : List (List Int)} {cs : List Value} (h : TLc w B v Ts cs) (hb : Below w.heap.size w w') : TLc w' B v Ts cs := ⟨h.1.below hb, h.2⟩
theorem TLc.lt {w : World} {B : Nat} {v : Value} {Ts : List (List Int)} {cs : List Value} (h : TLc w B v Ts cs) {i : Nat} {x : Value} (hx : cs[i]? = some x) {b : Nat} (hb : x.ownBlock = some b) : b < w.heap.size := by
  obtain ⟨⟨_, h2, h3⟩, _⟩ := h
  have hi : i < cs.length := (List.getElem?_eq_some_iff.1 hx).1
  obtain ⟨u, a, c, _⟩ := h3 i (by omega)
  rw [hx] at a; cases a
  exact c.lt _ hb
/-- One list more, appended, in a block that is newer than those of the others. -/
theorem TLc.snoc {w w' : World} {B H : Nat} {v v' u : Value} {Ts : List (List Int)} {t : List Int} {cs : List Value} (h : TLc w B v Ts cs) (hu : Own w B u t) (hne : u.ownBlock = none ∨ u.ownBlock ≠ v.ownBlock) (ht : t = [] → u = .slice none 0 0)
    (hown : w'.ownsRow B 22 1 v' (Ts.length + 1) (cs ++ [u])) (hg : w.grownBy w' v.ownBlock) (hloc : v'.ownBlock = v.ownBlock ∨ v'.ownBlock = some w.heap.size)
    (hold : ∀ (i : Nat) (x : Value) (b : Nat), cs[i]? = some x → x.ownBlock = some b → b < H) (hnew : ∀ b, u.ownBlock = some b → H ≤ b) : TL w' B v' (Ts ++ [t]) := by
  obtain ⟨⟨h1, h2, h3⟩, h4⟩ := h
  have far : ∀ {x : Value} {L : List Int}, Own w B x L → (x.ownBlock = none ∨ x.ownBlock ≠ v.ownBlock) → (x.ownBlock = none ∨ x.ownBlock ≠ v'.ownBlock) := fun {x L} hx hn => by
    rcases hn with hn | hn
    · exact .inl hn
    · rcases hloc with e | e
      · exact .inr (by rw [e]; exact hn)
      · cases hb : x.ownBlock with
        | none => exact .inl rfl
        | some k => exact .inr (fun e2 => by rw [e] at e2; cases e2; have := hx.lt _ hb; omega)
  have keep : ∀ {x : Value} {L : List Int}, Own w B x L → (x.ownBlock = none ∨ x.ownBlock ≠ v.ownBlock) → Own w' B x L := fun {x L} hx hn => hx.kept hg hn
  refine ⟨cs ++ [u], ⟨by rw [List.length_append]; exact hown, by simp [h2], fun i hi => ?_⟩, fun i j x y b hij hx hy hb hc => ?_⟩
  · rw [List.length_append, List.length_singleton] at hi
    by_cases e : i < Ts.length
    · obtain ⟨x, a, b, c, d⟩ := h3 i e
      rw [elS_left _ _ _ e]
      exact ⟨x, by rw [List.getElem?_append_left (by omega)]; exact a, keep b c, far b c, d⟩
    · obtain rfl : i = Ts.length := by omega
      rw [elS_end]
      exact ⟨u, by rw [← h2]; simp, keep hu hne, far hu hne, ht⟩
  · have hi := (List.getElem?_eq_some_iff.1 hx).1
    have hj := (List.getElem?_eq_some_iff.1 hy).1
    rw [List.length_append, List.length_singleton] at hi hj
    by_cases ei : i < cs.length
    · rw [List.getElem?_append_left ei] at hx
      by_cases ej : j < cs.length
      · rw [List.getElem?_append_left ej] at hy
        exact h4 i j x y b hij hx hy hb hc
      · obtain rfl : j = cs.length := by omega
        have hyu : u = y := by simpa using hy
        have g1 := hold i x b hx hb
        have g2 := hnew b (by rw [hyu]; exact hc)
        omega
    · obtain rfl : i = cs.length := by omega
      have hxu : u = x := by simpa using hx
      have ej : j < cs.length := by omega
      rw [List.getElem?_append_left ej] at hy
      have g1 := hold j y b hy hc
      have g2 := hnew b (by rw [hxu]; exact hb)
      omega
theorem keeps_grown {B : Nat} {W W' : World} {row : Option Nat} (hg : W.grownBy W' row) (hrow : ∀ r, row = some r → ∃ o : Obj, W.heap[r]? = some o ∧ o.isCells = true) : KeepsFrom B W W' :=
  ⟨hg.size, fun k o _ hk ho => (hg.block k (Array.getElem?_eq_some_iff.1 hk).1 (fun e => by obtain ⟨o2, h1, h2⟩ := hrow k e.symm; rw [hk] at h1; cases h1; rw [h2] at ho; cases ho)).trans hk⟩

theorem kept_rowP {W W' : World} {row : Option Nat} {B k : Nat} {o : Obj} (hg : W.grownBy W' row) (hr : ∀ r, row = some r → B ≤ r ∧ ∃ o : Obj, W.heap[r]? = some o ∧ o.isCells = false) (hk : k < B) (h : W.heap[k]? = some o) : W'.heap[k]? = some o :=
  (hg.block k (Array.getElem?_eq_some_iff.1 h).1 (fun e => by have := (hr k e.symm).1; omega)).trans h
/-- A block of one cell. -/
def Bx (W : World) (k : Nat) (t : TypeId) (v : Value) : Prop := W.heap[k]? = some (.cells #[v] t (0, 0))
theorem Bx.cell {W : World} {k : Nat} {t : TypeId} {v : Value} (h : Bx W k t v) : W.cell? ⟨k, 0, none⟩ = some v := by rw [cell_of_row W k 0 _ _ _ h]; rfl
theorem Bx.frozen {W : World} {k : Nat} {t : TypeId} {v : Value} (h : Bx W k t v) : W.frozen? ⟨k, 0, none⟩ = false := frozen_of_row W k 0 _ _ h
theorem Bx.lt {W : World} {k : Nat} {t : TypeId} {v : Value} (h : Bx W k t v) : k < W.heap.size := (Array.getElem?_eq_some_iff.1 h).1
theorem Bx.set {W : World} {k : Nat} {t : TypeId} {v : Value} (h : Bx W k t v) (x : Value) : Bx (W.setCell ⟨k, 0, none⟩ x) k t x := by
  unfold Bx at *
  rw [heap_setCell_same W k 0 _ _ _ h]; rfl
theorem grown_setP (W : World) (k i : Nat) (x : Value) : W.grownBy (W.setCell ⟨k, i, none⟩ x) (some k) := grown_set ⟨rfl, rfl, rfl, Nat.le_refl _, fun _ _ _ => rfl⟩ _ i x
theorem TL.low {w w' : World} {B : Nat} {v : Value} {Ts : List (List Int)} {r : Nat} (h : TL w B v Ts) (hg : w.grownBy w' (some r)) (hr : r < B) : TL w' B v Ts := by
  obtain ⟨cs, ⟨h1, h2, h3⟩, h4⟩ := h
  have far : ∀ {t : TypeId} {s n : Nat} {x : Value} {xs : List Value}, w.ownsRow B t s x n xs → (x.ownBlock = none ∨ x.ownBlock ≠ some r) := fun {t s n x xs} hx => by
    cases e : x.ownBlock with
    | none => exact .inl rfl
    | some k => exact .inr fun e2 => by cases e2; have := (World.ownsRow.lt hx _ e).1; omega
  refine ⟨cs, ⟨World.ownsRow.kept h1 hg (far h1), h2, fun i hi => ?_⟩, h4⟩
  obtain ⟨u, a, b, c⟩ := h3 i hi
  exact ⟨u, a, b.kept hg (far b), c⟩
theorem TL.base {w : World} {B B' : Nat} {v : Value} {Ts : List (List Int)} (h : TL w B v Ts) (hb : B' ≤ B) : TL w B' v Ts := by
  obtain ⟨cs, ⟨h1, h2, h3⟩, h4⟩ := h
  refine ⟨cs, ⟨⟨h1.1, h1.2.imp id fun ⟨g, cap, cur, e, hB, r⟩ => ⟨g, cap, cur, e, Nat.le_trans hb hB, r⟩⟩, h2, fun i hi => ?_⟩, h4⟩
  obtain ⟨u, a, b, c⟩ := h3 i hi
  exact ⟨u, a, b.base hb, c⟩
theorem TL.nil (w : World) (B : Nat) : TL w B (.slice none 0 0) [] := ⟨[], ⟨World.ownsRow_nil w B _ 1, rfl, fun i h => by simp at h⟩, fun i j x y b _ hx => by simp at hx⟩
theorem mem_len64P (x : Nat) : (mem x).length ≤ 64 := by unfold mem; exact Nat.le_trans (List.length_filter_le _ _) (by simp)

def LSRes (B : Nat) (Ts : List (List Int)) (c : Int) (e : Ending) (w' : World) : Prop := ∃ u, e = .returned (.tuple #[u, .int .i64 c]) ∧ TL w' B u Ts

theorem TL.below {w w' : World} {B : Nat} {v : Value} {Ts : List (List Int)} (h : TL w B v Ts) (hb : Below w.heap.size w w') : TL w' B v Ts := by
  obtain ⟨cs, h⟩ := h; exact ⟨cs, h.below hb⟩

/-- A list of lists stays where the loops' records alone turn. -/
theorem TL.marks {W W' : World} {B H : Nat} {v : Value} {Ts : List (List Int)} {Ds : List Nat} (h : TL W B v Ts) (hD : DsOk H W Ds) (hs : ∀ k, k ∉ Ds → W'.heap[k]? = W.heap[k]?) : TL W' B v Ts := by
  have far : ∀ {t : TypeId} {s n : Nat} {x : Value} {xs : List Value}, W.ownsRow B t s x n xs → W'.ownsRow B t s x n xs := fun {t s n x xs} hx =>
    ⟨hx.1, hx.2.imp id fun ⟨g, cap, cur, e, hB, hg, r⟩ => ⟨g, cap, cur, e, hB, (hs g fun hm => by rw [(hD.2 g hm).2] at hg; cases hg).trans hg, r⟩⟩
  obtain ⟨cs, ⟨h1, h2, h3⟩, h4⟩ := h
  refine ⟨cs, ⟨far h1, h2, fun i hi => ?_⟩, h4⟩
  obtain ⟨u, a, b, c⟩ := h3 i hi
  exact ⟨u, a, far b, c⟩
theorem TL.notMark {W : World} {B : Nat} {v : Value} {Ts : List (List Int)} {cs : List Value} {Ds : List Nat} (h : TLc W B v Ts cs) (hD : ∀ D, D ∈ Ds → W.heap[D]? = some (.deferred (some []))) (D : Nat) (hm : D ∈ Ds) : v.ownBlock ≠ some D := fun e => by
  obtain ⟨o, h1, h2⟩ := ownsRow_cells h.1.1 D e
  rw [hD D hm] at h1; cases h1; cases h2
end Go.Proofs.YtkflcjhoghiffaaDoor
