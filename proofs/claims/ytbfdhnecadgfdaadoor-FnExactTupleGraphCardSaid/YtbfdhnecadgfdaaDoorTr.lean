/-
  Triples: sets of them as maps, their multiples, points on lines.
-/
import Derived.Test.YtbfdhnecadgfdaaDoorTq
import Derived.Test.YtbfdhnecadgfdaaDoorGp
import Derived.Maps.OwnOps
import Derived.BigQuiet
import Derived.Deep.QuietTactic
namespace Go.Proofs.YtbfdhnecadgfdaaDoor
set_option maxRecDepth 100000
open Go.RowKit Go.Maps Go.WideMaps Go.WideElems

theorem arrTri : ArrKey Tryd.prog 53 2 3 := ⟨Tryd.underlying53, by kernel_rfl, by kernel_rfl, by kernel_rfl⟩
theorem lawTri : Keyed Tryd.prog 53 := Keyed.of_law arrTri.law
/-- How a triple reads as a key. -/
def triL (a b c : Int) : Lit := .string (keyBytes [.int .i64 a, .int .i64 b, .int .i64 c])
theorem keyOf_tri (a b c : Int) (ha : (Lit.int .i64 a).wf = true) (hb : (Lit.int .i64 b).wf = true) (hc : (Lit.int .i64 c).wf = true) : keyOf Tryd.prog 53 (.agg #[.int .i64 a, .int .i64 b, .int .i64 c]) = some (triL a b c) := by
  have hkt := arrTri.keyType types_pos
  obtain ⟨m0, hm0⟩ := types_pos
  have c1 := arrTri.one
  unfold keyOf
  simp only [arrTri.hu]
  rw [if_pos (by simp [hkt, Value.formed, arrTri.hu, arrTri.size]), hm0]
  unfold Program.keyLits
  simp only [arrTri.hu, Value.cells]
  rw [if_pos (by simp [arrTri.size])]
  simp [List.range_succ, c1, Program.keyLits, Tryd.underlying2, ha, hb, hc, triL]
theorem triL_inj {a b c d e f : Int} (ha : (Lit.int .i64 a).wf = true) (hb : (Lit.int .i64 b).wf = true) (hc : (Lit.int .i64 c).wf = true) (hd : (Lit.int .i64 d).wf = true) (he : (Lit.int .i64 e).wf = true) (hf : (Lit.int .i64 f).wf = true)
    (h : triL a b c = triL d e f) : a = d ∧ b = e ∧ c = f := by
  have h1 := keyOf_tri a b c ha hb hc
  have h2 := keyOf_tri d e f hd he hf
  rw [h] at h1
  have := lawTri.inj h1 h2
  simpa using this
def keyT (t : List Int) : Lit := triL (el t 0) (el t 1) (el t 2)
/-- The keys of D are just the triples of S, and each element is true. -/
def HoldsT (D : DataW Unit) (S : List (List Int)) : Prop := (∀ kl, has D kl = true ↔ ∃ t, t ∈ S ∧ kl = keyT t) ∧ ∀ kl, has D kl = true → ∀ z, D.atKey kl z = .lit (.bool true)
theorem HoldsT.nil : HoldsT (.map []) [] := ⟨fun kl => by simp [has], fun kl h => by simp [has] at h⟩
theorem HoldsT.put {D : DataW Unit} {S : List (List Int)} (h : HoldsT D S) (hD : IsMap D) (t : List Int) : HoldsT (D.put (keyT t) (.lit (.bool true))) (S ++ [t]) := by
  have hk : WideAt.IsKeyLit (keyT t) := trivial
  refine ⟨fun kl => ?_, fun kl hkl z => ?_⟩
  · by_cases e : kl = keyT t
    · subst e
      rw [has_put_same hD hk]
      exact ⟨fun _ => ⟨t, by simp, rfl⟩, fun _ => rfl⟩
    · rw [has_put_other e, h.1 kl]
      constructor
      · rintro ⟨q, hq, rfl⟩; exact ⟨q, List.mem_append_left _ hq, rfl⟩
      · rintro ⟨q, hq, rfl⟩
        rcases List.mem_append.1 hq with hq | hq
        · exact ⟨q, hq, rfl⟩
        · simp at hq; subst hq; exact absurd rfl e
  · by_cases e : kl = keyT t
    · subst e; exact atKey_put_same hD hk _ _
    · rw [has_put_other e] at hkl
      rw [atKey_put_other e]
      exact h.2 kl hkl z
/-- Block b is a map whose keys are just the triples of S, all true. -/
def PT (w : World) (b : Nat) (S : List (List Int)) : Prop := ∃ D : DataW Unit, w.ownsMap Tryd.prog 53 (plainElem Tryd.prog 4) b S.length D ∧ HoldsT D S
theorem PT.kept {w w' : World} {b : Nat} {S : List (List Int)} {row : Option Nat} (h : PT w b S) (hg : w.grownBy w' row) (hne : some b ≠ row) : PT w' b S := by
  obtain ⟨D, h1, h2⟩ := h
  exact ⟨D, h1.kept hg hne, h2⟩
theorem PT.lt {w : World} {b : Nat} {S : List (List Int)} (h : PT w b S) : b < w.heap.size := by obtain ⟨D, h1, _⟩ := h; exact h1.lt
theorem PT.below {w w' : World} {b : Nat} {S : List (List Int)} (h : PT w b S) (hb : Below w.heap.size w w') : PT w' b S := h.kept (grown_of_below hb none) (by simp)
theorem PT.made (w : World) : PT (w.alloc (.map #[] 0)) w.heap.size [] := ⟨_, World.ownsMap_made _ _ _ _, HoldsT.nil⟩

/-- Triples of small numbers. -/
def Small (t : List Int) : Prop := t.length = 3 ∧ ∀ i, 0 ≤ el t i ∧ el t i < 1048576
theorem small_wf {t : List Int} (h : Small t) (i : Nat) : (Lit.int .i64 (el t i)).wf = true := WalkArith.wf_i64 (by have := h.2 i; omega)
theorem small_eq {s t : List Int} (hs : Small s) (ht : Small t) (h : keyT s = keyT t) : s = t := by
  have := triL_inj (small_wf hs 0) (small_wf hs 1) (small_wf hs 2) (small_wf ht 0) (small_wf ht 1) (small_wf ht 2) h
  apply list_ext_el (by rw [hs.1, ht.1])
  intro i hi
  rw [hs.1] at hi
  have : i = 0 ∨ i = 1 ∨ i = 2 := by omega
  rcases this with rfl | rfl | rfl
  · exact this.1
  · exact this.2.1
  · exact this.2.2

/-- A store into a set of triples, as 'mapUpdate' or as the literal's 'insert'. -/
theorem wpList_put_tri (w : World) {ops : Array Oper} {rest : List Oper} {o : Oper} {a : Act} {Q : Exit → Act → World → Prop} (hg : o.guard = none) (m x v : Operand)
    (hop : o.op = Op.mapUpdate 77 m x v ∨ o.op = Op.insert 77 m x v) (b : Nat) (S : List (List Int)) (t : List Int)
    (hm : a.eval m = .map (some b)) (hown : PT w b S) (hn : S.length < maxLen) (ht : Small t) (hx : a.eval x = .agg #[.int .i64 (el t 0), .int .i64 (el t 1), .int .i64 (el t 2)]) (hv : a.eval v = .bool true)
    (hK : ∀ w', PT w' b (S ++ [t]) → w.grownBy w' (some b) → wpList Tryd.prog ops Q rest (a.put o.dst undef) w') :
    wpList Tryd.prog ops Q (o :: rest) a w := by
  refine wpList_plain hg fun K' hK' => ?_
  obtain ⟨D, h1, h2⟩ := hown
  obtain ⟨w', hrun, r1, r2⟩ := h1.update lawTri Tryd.underlying77 hn (keyOf_tri _ _ _ (small_wf ht 0) (small_wf ht 1) (small_wf ht 2)) (plainElem_bool Tryd.underlying4 true)
  have hp : PT w' b (S ++ [t]) := ⟨_, by rw [List.length_append]; exact r1, h2.put h1.isMap t⟩
  unfold Oper.wp
  rcases hop with hop | hop
  · simp [execOp, hop, hm, hx, hv, hrun, Result.andThen]
    exact hK' _ _ (hK w' hp r2)
  · simp [execOp, hop, hm, hx, hv, hrun, Result.andThen]
    exact hK' _ _ (hK w' hp r2)
theorem zeroB (w : World) : (zeroValue 4).run Tryd.prog w = .ok (.bool false) w := by kernel_rfl
/-- A triple looked up in a set. -/
theorem wpList_look_tri (w : World) {ops : Array Oper} {rest : List Oper} {o : Oper} {a : Act} {Q : Exit → Act → World → Prop} (hg : o.guard = none) (m x : Operand)
    (hop : o.op = Op.lookup 77 m x false) (b : Nat) (S : List (List Int)) (t : List Int) (r : Bool)
    (hm : a.eval m = .map (some b)) (hown : PT w b S) (ht : Small t) (hS : ∀ s, s ∈ S → Small s) (hr : S.contains t = r) (hx : a.eval x = .agg #[.int .i64 (el t 0), .int .i64 (el t 1), .int .i64 (el t 2)])
    (hK : wpList Tryd.prog ops Q rest (a.put o.dst (.bool r)) w) :
    wpList Tryd.prog ops Q (o :: rest) a w := by
  refine wpList_plain hg fun K' hK' => ?_
  obtain ⟨D, h1, h2, h3⟩ := hown
  obtain ⟨v, ps, hrun, hv⟩ := h1.lookup lawTri Tryd.underlying77 (zeroB w) (plainElem_bool Tryd.underlying4 false) (keyOf_tri _ _ _ (small_wf ht 0) (small_wf ht 1) (small_wf ht 2))
  have hval : v = .bool r := by
    have hin : has D (keyT t) = r := by
      rw [← hr, Bool.eq_iff_iff, h2]
      constructor
      · rintro ⟨s, hs, e⟩
        rw [small_eq ht (hS s hs) e]
        simpa using hs
      · intro h
        exact ⟨t, by simpa using h, rfl⟩
    obtain ⟨c, rfl⟩ := plainElem_bool_inv Tryd.underlying4 hv
    rw [plainElem_bool Tryd.underlying4 c] at hv
    cases r with
    | true => have e := h3 _ hin (.lit (.bool false)); unfold keyT at e; rw [e] at hv; simp at hv; rw [hv.1]
    | false => have e := atKey_of_not_has hin (.lit (.bool false)); unfold keyT at e; rw [e] at hv; simp at hv; rw [hv.1]
  subst hval
  unfold Oper.wp
  simp [execOp, hop, hm, hx, hrun, Result.andThen]
  exact hK' _ _ hK
end Go.Proofs.YtbfdhnecadgfdaaDoor
