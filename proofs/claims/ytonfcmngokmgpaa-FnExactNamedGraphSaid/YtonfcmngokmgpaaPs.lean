/-
  Sets of pairs of vertices: maps whose keys are arrays of two numbers.
-/
import Derived.Test.YtonfcmngokmgpaaPg
import Derived.Test.YtonfcmngokmgpaaEd
import Derived.Maps.RangeWalk
import Derived.Maps.Ext
import Derived.DeepKeys4
import Derived.WideKeyArr2
namespace Go.Proofs.Ytonfcmngokmgpaa
set_option maxRecDepth 100000
open Go.RowKit Go.Maps Go.WideMaps Go.WideElems

theorem arrPair : ArrKey Try.prog 58 2 2 := ⟨Try.underlying58, by kernel_rfl, by kernel_rfl, by kernel_rfl⟩
theorem lawPair : Keyed Try.prog 58 := Keyed.of_law arrPair.law
theorem types_pos : ∃ m, Try.prog.types.size = m + 1 := ⟨Try.prog.types.size - 1, by have : 0 < Try.prog.types.size := of_decide_eq_true (by kernel_rfl); omega⟩
/-- How a pair reads as a key. -/
def pairL (a b : Int) : Lit := .string (keyBytes [.int .i64 a, .int .i64 b])
theorem keyOf_pair (a b : Int) (ha : (Lit.int .i64 a).wf = true) (hb : (Lit.int .i64 b).wf = true) : keyOf Try.prog 58 (.agg #[.int .i64 a, .int .i64 b]) = some (pairL a b) := by
  have hkt := arrPair.keyType types_pos
  obtain ⟨m0, hm0⟩ := types_pos
  have c1 := arrPair.one
  unfold keyOf
  simp only [arrPair.hu]
  rw [if_pos (by simp [hkt, Value.formed, arrPair.hu, arrPair.size]), hm0]
  unfold Program.keyLits
  simp only [arrPair.hu, Value.cells]
  rw [if_pos (by simp [arrPair.size])]
  simp [List.range_succ, c1, Program.keyLits, Try.underlying2, ha, hb, pairL]
theorem pairL_inj {a b c d : Int} (ha : (Lit.int .i64 a).wf = true) (hb : (Lit.int .i64 b).wf = true) (hc : (Lit.int .i64 c).wf = true) (hd : (Lit.int .i64 d).wf = true) (h : pairL a b = pairL c d) : a = c ∧ b = d := by
  have h1 := keyOf_pair a b ha hb
  have h2 := keyOf_pair c d hc hd
  rw [h] at h1
  have := lawPair.inj h1 h2
  simpa using this
theorem pairL_key (a b : Int) : WideAt.IsKeyLit (pairL a b) := trivial

theorem wfN (n : Nat) (h : n < 9223372036854775807) : (Lit.int .i64 (n : Int)).wf = true := WalkArith.wf_i64 (by omega)
/-- The key of an edge. -/
def keyE (p : Nat × Nat) : Lit := pairL ((min p.1 p.2 : Nat) : Int) ((max p.1 p.2 : Nat) : Int)
/-- The keys of D are just the edges of S. -/
def Holds (D : DataW Unit) (S : List (Nat × Nat)) : Prop := ∀ kl, has D kl = true ↔ ∃ p, p ∈ S ∧ kl = keyE p
theorem Holds.nil : Holds (.map []) [] := fun kl => by simp [has]
theorem Holds.put {D : DataW Unit} {S : List (Nat × Nat)} (h : Holds D S) (hD : IsMap D) (p : Nat × Nat) (d : DataW Unit) : Holds (D.put (keyE p) d) (S ++ [p]) := by
  intro kl
  by_cases e : kl = keyE p
  · subst e
    rw [has_put_same hD (show WideAt.IsKeyLit (keyE p) from trivial)]
    exact ⟨fun _ => ⟨p, by simp, rfl⟩, fun _ => rfl⟩
  · rw [has_put_other e, h kl]
    constructor
    · rintro ⟨q, hq, rfl⟩; exact ⟨q, List.mem_append_left _ hq, rfl⟩
    · rintro ⟨q, hq, rfl⟩
      rcases List.mem_append.1 hq with hq | hq
      · exact ⟨q, hq, rfl⟩
      · simp at hq; subst hq; exact absurd rfl e

/-- Block b is a map whose keys are just the edges of S. -/
def PS (w : World) (b : Nat) (S : List (Nat × Nat)) : Prop := ∃ D : DataW Unit, w.ownsMap Try.prog 58 (plainElem Try.prog 4) b S.length D ∧ Holds D S
theorem PS.made (w : World) : PS (w.alloc (.map #[] 0)) w.heap.size [] := ⟨_, World.ownsMap_made _ _ _ _, Holds.nil⟩
theorem PS.kept {w w' : World} {b : Nat} {S : List (Nat × Nat)} {row : Option Nat} (h : PS w b S) (hg : w.grownBy w' row) (hne : some b ≠ row) : PS w' b S := by
  obtain ⟨D, h1, h2⟩ := h
  exact ⟨D, h1.kept hg hne, h2⟩
theorem PS.lt {w : World} {b : Nat} {S : List (Nat × Nat)} (h : PS w b S) : b < w.heap.size := by obtain ⟨D, h1, _⟩ := h; exact h1.lt
theorem PS.below {w w' : World} {b : Nat} {S : List (Nat × Nat)} (h : PS w b S) (hb : Below w.heap.size w w') : PS w' b S := h.kept (grown_of_below hb none) (by simp)

theorem max_ite (a b : Nat) : ((max a b : Nat) : Int) = max (a : Int) (b : Int) := by omega
theorem min_ite (a b : Nat) : ((min a b : Nat) : Int) = min (a : Int) (b : Int) := by omega

set_option maxHeartbeats 800000 in
theorem join_any (b : Nat) (S : List (Nat × Nat)) (x y : Nat) (w : World) (h : PS w b S) (hS : S.length < 1048576) (hx : x < 1048576) (hy : y < 1048576) :
    Calls Try.prog 29 #[.map (some b), .int .i64 x, .int .i64 y] w fun e w' => (∃ v, e = .returned v) ∧ PS w' b (S ++ [(x, y)]) ∧ w.grownBy w' (some b) := by
  obtain ⟨D, hown, hH⟩ := h
  have HU := Lib.hid (hH.put hown.isMap (x, y))
  have HO := Lib.hid hown
  have HLen : Hid (S.length < maxLen) := by show _ < _; unfold maxLen; omega
  have hx0 : (0 : Int) ≤ x := by omega
  have hy0 : (0 : Int) ≤ y := by omega
  clear hH hown
  rcases Nat.lt_trichotomy x y with hxy | hxy | hxy
  · have e : keyE (x, y) = pairL (x : Int) (y : Int) := by unfold keyE; rw [Nat.min_eq_left (by omega), Nat.max_eq_right (by omega)]
    rw [e] at HU
    have h1 : ¬ (y : Int) < x := by omega
    have h2 : (x : Int) < y := by omega
    have h3 : ¬ y < x := by omega
    have h4 : x < y := by omega
    have w1 := wfN x (by omega)
    have w2 := wfN y (by omega)
    clear e hxy
    go_enter Try.func29, Try.ntmps29
    go_wp2_with (at_mapUpdate; refine wpList_mapUpdate_own _ rfl _ _ _ 51 rfl 58 4 lawPair Try.underlying51 _ b _ _ rfl HO.out HLen.out _ _ (pairL x y) rfl rfl (keyOf_pair x y w1 w2) _ [] (plainElem_bool Try.underlying4 true) ?_; intro w1 hown1 hgr1)
    go_end0
    exact ⟨⟨_, rfl⟩, ⟨_, by rw [List.length_append]; exact hown1, HU.out _⟩, hgr1⟩
  · subst hxy
    have hxy : x = x := rfl
    have e : keyE (x, x) = pairL (x : Int) (x : Int) := by unfold keyE; rw [Nat.min_self, Nat.max_self]
    rw [e] at HU
    have w1 := wfN x (by omega)
    clear e hxy
    go_enter Try.func29, Try.ntmps29
    go_wp2_with (at_mapUpdate; refine wpList_mapUpdate_own _ rfl _ _ _ 51 rfl 58 4 lawPair Try.underlying51 _ b _ _ rfl HO.out HLen.out _ _ (pairL x x) rfl rfl (keyOf_pair x x w1 w1) _ [] (plainElem_bool Try.underlying4 true) ?_; intro w1 hown1 hgr1)
    go_end0
    exact ⟨⟨_, rfl⟩, ⟨_, by rw [List.length_append]; exact hown1, HU.out _⟩, hgr1⟩
  · have e : keyE (x, y) = pairL (y : Int) (x : Int) := by unfold keyE; rw [Nat.min_eq_right (by omega), Nat.max_eq_left (by omega)]
    rw [e] at HU
    have h1 : (y : Int) < x := by omega
    have h2 : ¬ (x : Int) < y := by omega
    have h3 : y < x := by omega
    have h4 : ¬ x < y := by omega
    have w1 := wfN x (by omega)
    have w2 := wfN y (by omega)
    clear e hxy
    go_enter Try.func29, Try.ntmps29
    go_wp2_with (at_mapUpdate; refine wpList_mapUpdate_own _ rfl _ _ _ 51 rfl 58 4 lawPair Try.underlying51 _ b _ _ rfl HO.out HLen.out _ _ (pairL y x) rfl rfl (keyOf_pair y x w2 w1) _ [] (plainElem_bool Try.underlying4 true) ?_; intro w1 hown1 hgr1)
    go_end0
    exact ⟨⟨_, rfl⟩, ⟨_, by rw [List.length_append]; exact hown1, HU.out _⟩, hgr1⟩
end Go.Proofs.Ytonfcmngokmgpaa
