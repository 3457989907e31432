/-
  impl.PartsOf. (A tied seat of graphs.)
-/
import Derived.Test.YtbacocldjcenjaaDoorPa
import Derived.Test.YtbacocldjcenjaaDoorPx
import Derived.Maps.OwnIn
import Derived.RangeFuncWrites
namespace Go.Proofs.YtbacocldjcenjaaDoor
set_option maxRecDepth 100000
set_option maxRecDepth 100000
open Go.RowKit Go.Shelf

attribute [local go_sem] Oper.semAt_some

/-- Part i, in the order in which they are found. -/
def ptF (F : Nat → Nat × Nat) (n i : Nat) : List Int := nI (mem ((F (lo (lfN n F i))).1 ||| (F (lo (lfN n F i))).2))
theorem pts_all {zs : List Int} {F : Nat → Nat × Nat} {p : Nat} (h62 : zs.length ≤ 62) (hz : ∀ i, i < zs.length → (el zs i).toNat < 2 ^ zs.length) (hF : ∀ v, v < zs.length → RD zs v (F v)) (hp : PN zs.length F p) : (List.range p).map (ptF F zs.length) = PtL zs := by
  have key : ∀ k, k ≤ p → ∃ v, v ≤ zs.length ∧ PI zs F k v ∧ (List.range k).map (ptF F zs.length) = PtU zs v := by
    intro k
    induction k with
    | zero => exact fun _ => ⟨0, Nat.zero_le _, PI.start, rfl⟩
    | succ k ih =>
      intro hk
      obtain ⟨v, hv, hP, e⟩ := ih (by omega)
      obtain ⟨h1, h2, h3, h4⟩ := hP.next h62 hz hF (hp.2 k (by omega))
      refine ⟨_, h1, h4, ?_⟩
      rw [List.range_succ, List.map_append, e]
      unfold PtU
      rw [h3, List.map_append]
      congr 1
      show [ptF F zs.length k] = [nI (ptN zs (lo (lfN zs.length F k)))]
      unfold ptF
      rw [part_mem (hF _ h1) h1 h62 hz]
  obtain ⟨v, hv, hP, e⟩ := key p (Nat.le_refl _)
  rw [e]
  unfold PtL PtU
  rw [hP.last hp.1 hv]
theorem fin_mapP {α : Type} (m : Nat) (g : Nat → α) : (List.finRange m).map (fun x : Fin m => g x.1) = (List.range m).map g := by
  apply List.ext_getElem <;> simp

/-- As TSc, and no two of the lists lie in one block. -/
def TLc (w : World) (B : Nat) (v : Value) (Ts : List (List Int)) (cs : List Value) : Prop := TSc w B v Ts cs ∧
  ∀ (i j : Nat) (x y : Value) (b : Nat), i ≠ j → cs[i]? = some x → cs[j]? = some y → x.ownBlock = some b → y.ownBlock ≠ some b
def TL (w : World) (B : Nat) (v : Value) (Ts : List (List Int)) : Prop := ∃ cs : List Value, TLc w B v Ts cs
theorem TL.ts {w : World} {B : Nat} {v : Value} {Ts : List (List Int)} (h : TL w B v Ts) : TS w B v Ts := by obtain ⟨cs, h, _⟩ := h; exact ⟨cs, h⟩
theorem ownsRow_cells {w : World} {B : Nat} {t : TypeId} {s n : Nat} {v : Value} {xs : List Value} (h : w.ownsRow B t s v n xs) : ∀ k, v.ownBlock = some k → ∃ o : Obj, w.heap[k]? = some o ∧ o.isCells = true := by
  intro k e
  rcases h.2 with ⟨rfl, _⟩ | ⟨g, cap, cur, rfl, _, hgb, _⟩
  · cases e
  · obtain rfl : g = k := by simpa [Value.ownBlock] using e
    exact ⟨_, hgb, rfl⟩
theorem row_far {w : World} {B : Nat} {t : TypeId} {s n : Nat} {v : Value} {xs : List Value} {row : Option Nat} (h : w.ownsRow B t s v n xs) (hrow : ∀ r, row = some r → ∃ o : Obj, w.heap[r]? = some o ∧ o.isCells = false) : v.ownBlock = none ∨ v.ownBlock ≠ row := by
  cases e : v.ownBlock with
  | none => exact .inl rfl
  | some k =>
    refine .inr fun e2 => ?_
    obtain ⟨o, h1, h2⟩ := ownsRow_cells h k e
    obtain ⟨o2, h3, h4⟩ := hrow k e2.symm
    rw [h1] at h3; cases h3; rw [h2] at h4; cases h4
theorem TL.kept {w w' : World} {B : Nat} {v : Value} {Ts : List (List Int)} {row : Option Nat} (h : TL w B v Ts) (hg : w.grownBy w' row) (hrow : ∀ r, row = some r → ∃ o : Obj, w.heap[r]? = some o ∧ o.isCells = false) : TL w' B v Ts := by
  obtain ⟨cs, ⟨h1, h2, h3⟩, h4⟩ := h
  refine ⟨cs, ⟨World.ownsRow.kept h1 hg (row_far h1 hrow), h2, fun i hi => ?_⟩, h4⟩
  obtain ⟨u, a, b, c⟩ := h3 i hi
  exact ⟨u, a, b.kept hg (row_far b hrow), c⟩
theorem TLc.below {w w' : World} {B : Nat} {v : Value} {Ts : List (List Int)} {cs : List Value} (h : TLc w B v Ts cs) (hb : Below w.heap.size w w') : TLc w' B v Ts cs := ⟨h.1.below hb, h.2⟩
theorem TLc.lt {w : World} {B : Nat} {v : Value} {Ts : List (List Int)} {cs : List Value} (h : TLc w B v Ts cs) {i : Nat} {x : Value} (hx : cs[i]? = some x) {b : Nat} (hb : x.ownBlock = some b) : b < w.heap.size := by
  obtain ⟨⟨_, h2, h3⟩, _⟩ := h
  have hi : i < cs.length := (List.getElem?_eq_some_iff.1 hx).1
  obtain ⟨u, a, c, _⟩ := h3 i (by omega)
  rw [hx] at a; cases a
  exact c.lt _ hb
/-- One list more, appended, in a block that is newer than those of the others. -/
theorem TLc.snoc {w w' : World} {B H : Nat} {v v' u : Value} {Ts : List (List Int)} {t : List Int} {cs : List Value} (h : TLc w B v Ts cs) (hu : Own w B u t) (hne : u.ownBlock = none ∨ u.ownBlock ≠ v.ownBlock) (ht : t = [] → u = .slice none 0 0)
    (hown : w'.ownsRow B 36 1 v' (Ts.length + 1) (cs ++ [u])) (hg : w.grownBy w' v.ownBlock) (hloc : v'.ownBlock = v.ownBlock ∨ v'.ownBlock = some w.heap.size)
    (hold : ∀ (i : Nat) (x : Value) (b : Nat), cs[i]? = some x → x.ownBlock = some b → b < H) (hnew : ∀ b, u.ownBlock = some b → H ≤ b) : TL w' B v' (Ts ++ [t]) := by
  obtain ⟨⟨h1, h2, h3⟩, h4⟩ := h
  have far : ∀ {x : Value} {L : List Int}, Own w B x L → (x.ownBlock = none ∨ x.ownBlock ≠ v.ownBlock) → (x.ownBlock = none ∨ x.ownBlock ≠ v'.ownBlock) := fun {x L} hx hn => by
    rcases hn with hn | hn
    · exact .inl hn
    · rcases hloc with e | e
      · exact .inr (by rw [e]; exact hn)
      · cases hb : x.ownBlock with
        | none => exact .inl rfl
        | some k => exact .inr (fun e2 => by rw [e] at e2; cases e2; have := hx.lt _ hb; omega)
  have keep : ∀ {x : Value} {L : List Int}, Own w B x L → (x.ownBlock = none ∨ x.ownBlock ≠ v.ownBlock) → Own w' B x L := fun {x L} hx hn => hx.kept hg hn
  refine ⟨cs ++ [u], ⟨by rw [List.length_append]; exact hown, by simp [h2], fun i hi => ?_⟩, fun i j x y b hij hx hy hb hc => ?_⟩
  · rw [List.length_append, List.length_singleton] at hi
    by_cases e : i < Ts.length
    · obtain ⟨x, a, b, c, d⟩ := h3 i e
      rw [elS_left _ _ _ e]
      exact ⟨x, by rw [List.getElem?_append_left (by omega)]; exact a, keep b c, far b c, d⟩
    · obtain rfl : i = Ts.length := by omega
      rw [elS_end]
      exact ⟨u, by rw [← h2]; simp, keep hu hne, far hu hne, ht⟩
  · have hi := (List.getElem?_eq_some_iff.1 hx).1
    have hj := (List.getElem?_eq_some_iff.1 hy).1
    rw [List.length_append, List.length_singleton] at hi hj
    by_cases ei : i < cs.length
    · rw [List.getElem?_append_left ei] at hx
      by_cases ej : j < cs.length
      · rw [List.getElem?_append_left ej] at hy
        exact h4 i j x y b hij hx hy hb hc
      · obtain rfl : j = cs.length := by omega
        have hyu : u = y := by simpa using hy
        have g1 := hold i x b hx hb
        have g2 := hnew b (by rw [hyu]; exact hc)
        omega
    · obtain rfl : i = cs.length := by omega
      have hxu : u = x := by simpa using hx
      have ej : j < cs.length := by omega
      rw [List.getElem?_append_left ej] at hy
      have g1 := hold j y b hy hc
      have g2 := hnew b (by rw [hxu]; exact hb)
      omega
theorem keeps_grown {B : Nat} {W W' : World} {row : Option Nat} (hg : W.grownBy W' row) (hrow : ∀ r, row = some r → ∃ o : Obj, W.heap[r]? = some o ∧ o.isCells = true) : KeepsFrom B W W' :=
  ⟨hg.size, fun k o _ hk ho => (hg.block k (Array.getElem?_eq_some_iff.1 hk).1 (fun e => by obtain ⟨o2, h1, h2⟩ := hrow k e.symm; rw [hk] at h1; cases h1; rw [h2] at ho; cases ho)).trans hk⟩

theorem partsIn_any (x v : Value) (w : World) : Calls Tryd.prog 15 #[.agg #[x, v]] w fun e w' => e = .returned (.func (.func 27) #[] #[.pointer (some ⟨w.heap.size, 0, none⟩)]) ∧ w' = w.alloc (.cells #[x, v] 38) := by
  go_enter Tryd.func15, Tryd.ntmps15
  go_wp2
  go_ret
  exact ⟨rfl, rfl⟩

theorem parts_stops (n : Nat) (hn : 1 ≤ n) (a n₀ b off cap : Nat) (zs : List Int) (F : Nat → Nat × Nat) (p : Nat) (hg : isG zs.length zs = true) (hF : ∀ v, v < zs.length → RD zs v (F v)) (hp : PN zs.length F p) (w : World)
    (ha : w.heap[a]? = some (.cells #[.int .i64 zs.length, .slice (some ⟨b, off, none⟩) zs.length cap] 38 (0, 0))) (hb : b < n₀) (hc : Cells w b off zs) (hT : Tab w) (hT0 : 0 < n₀) (hn0 : n₀ ≤ w.heap.size) :
    SeqStopsK Fence.wide n Tryd.prog 27 #[.pointer (some ⟨a, 0, none⟩)] (fun x : Fin p => #[.int .i64 ((F (lo (lfN zs.length F x.1))).1 : Nat), .int .i64 ((F (lo (lfN zs.length F x.1))).2 : Nat)]) (KpG n₀ a) (fun ys => ys = List.finRange p) (fun pre => pre <+: List.finRange p) p w := by
  intro l J Jx W hW hJ _ hY h0
  exact parts1_in n hn l W.heap.size a n₀ b off cap zs F p hg hF hp J Jx hJ hY W ((hW.block a (Array.getElem?_eq_some_iff.1 ha).1).trans ha) hb (hc.below hW (by omega)) (hT.belowAll hW) hT0 (Nat.le_trans hn0 hW.size) h0
end Go.Proofs.YtbacocldjcenjaaDoor
