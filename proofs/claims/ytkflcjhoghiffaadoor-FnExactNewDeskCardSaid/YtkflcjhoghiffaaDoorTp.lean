/-
  slices.Clone; lists of lists that a call gathers by append.
-/
import Derived.Test.YtkflcjhoghiffaaDoorSt
import Derived.Deep.AppendLies
import Derived.Maps.AppendAt
namespace Go.Proofs.YtkflcjhoghiffaaDoor
set_option maxRecDepth 100000
open Go.RowKit

set_option maxHeartbeats 400000 in
theorem clone_nil (w : World) : Calls Tryd.prog 69 #[.slice none 0 0] w fun e w' => e = .returned (.slice none 0 0) ∧ w = w' := by
  have hq := fun W => Lib.run_eql_slice_nil (P := Tryd.prog) W 22 2 none 0 0 0 0 Tryd.underlying22
  go_enter Tryd.func69, Tryd.ntmps69
  go_wp2
  go_ret
  exact ⟨rfl, rfl⟩

/-- What Clone leaves. -/
def Cloned (w : World) (L : List Int) (e : Ending) (w' : World) : Prop := ∃ u, e = .returned u ∧ Own w' w.heap.size u L
set_option maxHeartbeats 800000 in
theorem clone_some (b off cap : Nat) (zs : List Int) (w : World) (hb : b < w.heap.size) (hc : Cells w b off zs) (hl : zs.length ≤ 62) :
    Calls Tryd.prog 69 #[.slice (some ⟨b, off, none⟩) zs.length cap] w fun e w' => Cloned w zs e w' ∧ Below w.heap.size w w' := by
  have hq := fun W => Lib.run_eql_slice_nil (P := Tryd.prog) W 22 2 (some ⟨b, off, none⟩) zs.length cap 0 0 Tryd.underlying22
  obtain ⟨i0, hi, hz0, hz1, hz2⟩ := info_parts mk_info
  have HI := Lib.hid hi; have HI0 := Lib.hid hz0; have HI1 := Lib.hid hz1; have HI2 := Lib.hid hz2
  clear hi hz0 hz1 hz2
  have D0 : Below w.heap.size w (w.alloc (.cells #[] 2)) := (Below.refl _ _).alloc (Nat.le_refl _) _
  have hnil : (w.alloc (.cells #[] 2)).ownsRow w.heap.size 2 1 (.slice (some ⟨w.heap.size, 0, none⟩) 0 0) 0 [] := World.ownsRow_made w #[] 0 (base := w.heap.size) (e := 2) (size := 1) (Nat.le_refl _) (by decide) rfl
  have hcc := Lib.hid (hc.below D0 hb)
  have hnews : ∀ j u, (zs.map (Value.int .i64))[j]? = some u → (w.alloc (.cells #[] 2)).cell? ((⟨b, off, none⟩ : Addr).add j) = some u := by
    intro j u hj
    have hjl : j < zs.length := by
      have := (List.getElem?_eq_some_iff.1 hj).1
      simpa using this
    rw [map_at zs j hjl] at hj
    cases hj
    have hz := hcc.out j hjl
    simp only [Addr.add]
    split
    · rename_i h0; subst h0; simpa using hz
    · exact hz
  have HN := Lib.hid hnews
  have HW := Lib.hid hnil
  clear hnews hnil hc
  go_enter Tryd.func69, Tryd.ntmps69
  go_wp2_with (at_builtin; refine wpList_append_own _ rfl _ _ 22 rfl w.heap.size 2 i0 (.int .i64 0) 1 8 Tryd.underlying22 HI.out HI0.out HI1.out HI2.out rfl (by decide) _ _ _ rfl HW.out ⟨b, off, none⟩ zs.length cap (zs.map (Value.int .i64)) rfl (by simp) HN.out (by simp [Value.oneCell']) (by unfold maxLen; omega) (by omega) (by simp) ?_; intro u' w3 hown3 hgr3 _)
  have E3 := D0.grown hgr3 (by simp) (fun k e => (World.ownsRow.lt HW.out k e).1)
  have HO : Hid (Own w3 w.heap.size u' zs) := by
    show World.ownsRow _ _ _ _ _ _ _
    rw [Nat.zero_add, List.nil_append] at hown3
    exact hown3
  clear hown3 hgr3
  go_wp2
  go_ret
  exact ⟨⟨_, rfl, HO.out⟩, E3⟩

theorem clone_any (B : Nat) (u : Value) (t : List Int) (w : World) (h : Own w B u t) (hn : t = [] → u = .slice none 0 0) (hl : t.length ≤ 62) :
    Calls Tryd.prog 69 #[u] w fun e w' => Cloned w t e w' ∧ Below w.heap.size w w' := by
  by_cases h0 : t = []
  · have := hn h0
    subst this; subst h0
    exact (clone_nil w).mono fun e w' ⟨h1, h2⟩ => ⟨⟨_, h1, Own.nil _ _⟩, h2 ▸ Below.refl _ _⟩
  · rcases h.sl with ⟨_, _, _, h1⟩ | ⟨b, off, cap, rfl, hb, hc⟩
    · exact absurd h1 h0
    · exact clone_some b off cap t w hb hc hl

/-- The slice v owns, from block B on, the cells cs; those are slices that own, from block B on, the lists of Ts, and none lies in v's own row; the empty list is nil. -/
def TSc (w : World) (B : Nat) (v : Value) (Ts : List (List Int)) (cs : List Value) : Prop := w.ownsRow B 22 1 v Ts.length cs ∧ cs.length = Ts.length ∧
  ∀ i, i < Ts.length → ∃ u, cs[i]? = some u ∧ Own w B u (elS Ts i) ∧ (u.ownBlock = none ∨ u.ownBlock ≠ v.ownBlock) ∧ (elS Ts i = [] → u = .slice none 0 0)
def TS (w : World) (B : Nat) (v : Value) (Ts : List (List Int)) : Prop := ∃ cs : List Value, TSc w B v Ts cs
theorem TS.nil (w : World) (B : Nat) : TS w B (.slice none 0 0) [] := ⟨[], World.ownsRow_nil w B _ 1, rfl, fun i h => by simp at h⟩
theorem TSc.below {w w' : World} {B : Nat} {v : Value} {Ts : List (List Int)} {cs : List Value} (h : TSc w B v Ts cs) (hb : Below w.heap.size w w') : TSc w' B v Ts cs := by
  obtain ⟨h1, h2, h3⟩ := h
  refine ⟨World.ownsRow.kept h1 (grown_of_below hb none) (by cases v.ownBlock <;> simp), h2, fun i hi => ?_⟩
  obtain ⟨u, a, b, c⟩ := h3 i hi
  exact ⟨u, a, b.below hb, c⟩
theorem TS.below {w w' : World} {B : Nat} {v : Value} {Ts : List (List Int)} (h : TS w B v Ts) (hb : Below w.heap.size w w') : TS w' B v Ts := by
  obtain ⟨cs, h⟩ := h; exact ⟨cs, h.below hb⟩
theorem TS.base {w : World} {B B' : Nat} {v : Value} {Ts : List (List Int)} (h : TS w B v Ts) (hb : B' ≤ B) : TS w B' v Ts := by
  obtain ⟨cs, h1, h2, h3⟩ := h
  refine ⟨cs, ⟨h1.1, h1.2.imp id fun ⟨g, cap, cur, e, hB, r⟩ => ⟨g, cap, cur, e, Nat.le_trans hb hB, r⟩⟩, h2, fun i hi => ?_⟩
  obtain ⟨u, a, b, c⟩ := h3 i hi
  exact ⟨u, a, b.base hb, c⟩
theorem TSc.form {w : World} {B : Nat} {v : Value} {Ts : List (List Int)} {cs : List Value} (h : TSc w B v Ts cs) : (v = .slice none 0 0 ∧ Ts = []) ∨ ∃ g cap, v = .slice (some ⟨g, 0, none⟩) Ts.length cap ∧ B ≤ g ∧ g < w.heap.size := by
  rcases h.1.2 with ⟨rfl, h0⟩ | ⟨g, cap, cur, rfl, hb, hg, _⟩
  · exact .inl ⟨rfl, List.eq_nil_of_length_eq_zero h0⟩
  · exact .inr ⟨g, cap, rfl, hb, (Array.getElem?_eq_some_iff.1 hg).1⟩
theorem TS.form {w : World} {B : Nat} {v : Value} {Ts : List (List Int)} (h : TS w B v Ts) : (v = .slice none 0 0 ∧ Ts = []) ∨ ∃ g cap, v = .slice (some ⟨g, 0, none⟩) Ts.length cap ∧ B ≤ g ∧ g < w.heap.size := by
  obtain ⟨cs, h⟩ := h; exact h.form
/-- One of its lists: where its cell lies, and what it is. -/
theorem TS.at {w : World} {B g cap : Nat} {Ts : List (List Int)} (h : TS w B (.slice (some ⟨g, 0, none⟩) Ts.length cap) Ts) {i : Nat} (hi : i < Ts.length) :
    ∃ u, w.cell? ⟨g, i, none⟩ = some u ∧ Own w B u (elS Ts i) ∧ (elS Ts i = [] → u = .slice none 0 0) := by
  obtain ⟨cs, h1, h2, h3⟩ := h
  obtain ⟨u, a, b, c, d⟩ := h3 i hi
  exact ⟨u, (World.ownsRow.cellAt h1 i (by omega)).trans a, b, d⟩
theorem elS_left (Ts Us : List (List Int)) (i : Nat) (h : i < Ts.length) : elS (Ts ++ Us) i = elS Ts i := by unfold elS; rw [List.getD_eq_getElem?_getD, List.getD_eq_getElem?_getD, List.getElem?_append_left h]
theorem elS_end (Ts : List (List Int)) (t : List Int) : elS (Ts ++ [t]) Ts.length = t := by simp [elS]
/-- One list more, appended. -/
theorem TSc.snoc {w w' : World} {B : Nat} {v v' u : Value} {Ts : List (List Int)} {t : List Int} {cs : List Value} (h : TSc w B v Ts cs) (hu : Own w B u t) (hne : u.ownBlock = none ∨ u.ownBlock ≠ v.ownBlock) (ht : t = [] → u = .slice none 0 0)
    (hown : w'.ownsRow B 22 1 v' (Ts.length + 1) (cs ++ [u])) (hg : w.grownBy w' v.ownBlock) (hloc : v'.ownBlock = v.ownBlock ∨ v'.ownBlock = some w.heap.size) : TS w' B v' (Ts ++ [t]) := by
  obtain ⟨h1, h2, h3⟩ := h
  have far : ∀ {x : Value} {L : List Int}, Own w B x L → (x.ownBlock = none ∨ x.ownBlock ≠ v.ownBlock) → (x.ownBlock = none ∨ x.ownBlock ≠ v'.ownBlock) := fun {x L} hx hn => by
    rcases hn with hn | hn
    · exact .inl hn
    · rcases hloc with e | e
      · exact .inr (by rw [e]; exact hn)
      · cases hb : x.ownBlock with
        | none => exact .inl rfl
        | some k => exact .inr (fun e2 => by rw [e] at e2; cases e2; have := hx.lt _ hb; omega)
  have keep : ∀ {x : Value} {L : List Int}, Own w B x L → (x.ownBlock = none ∨ x.ownBlock ≠ v.ownBlock) → Own w' B x L := fun {x L} hx hn => hx.kept hg hn
  refine ⟨cs ++ [u], by rw [List.length_append]; exact hown, by simp [h2], fun i hi => ?_⟩
  rw [List.length_append, List.length_singleton] at hi
  by_cases e : i < Ts.length
  · obtain ⟨x, a, b, c, d⟩ := h3 i e
    rw [elS_left _ _ _ e]
    exact ⟨x, by rw [List.getElem?_append_left (by omega)]; exact a, keep b c, far b c, d⟩
  · obtain rfl : i = Ts.length := by omega
    rw [elS_end]
    exact ⟨u, by rw [← h2]; simp, keep hu hne, far hu hne, ht⟩
theorem TS.rows {w : World} {B g cap : Nat} {Ts : List (List Int)} (h : TS w B (.slice (some ⟨g, 0, none⟩) Ts.length cap) Ts) : Rows w g 0 Ts := fun i hi => by
  obtain ⟨u, a, b, _⟩ := h.at hi
  have hf := slForm b.sl
  exact ⟨slPtr u, slCap u, by rw [Nat.zero_add, ← hf]; exact a, by rw [← hf]; exact b.sl⟩
end Go.Proofs.YtkflcjhoghiffaaDoor
