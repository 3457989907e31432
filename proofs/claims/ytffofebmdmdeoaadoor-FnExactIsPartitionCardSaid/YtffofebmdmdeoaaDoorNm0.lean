/-
  Keys numbered in the order in which they are met first: plain facts, and maps that hold such numbers.
-/
import Derived.Test.YtffofebmdmdeoaaDoorMark
import Derived.Maps.OwnSet
import Derived.Maps.OwnOps
namespace Go.Proofs.YtffofebmdmdeoaaDoor
set_option maxRecDepth 100000
open Go.RowKit Go.Maps Go.WideMaps Go.WideElems

section
variable {α : Type} [DecidableEq α]
/-- The keys met, one more. -/
def dS (d : List α) (x : α) : List α := if x ∈ d then d else d ++ [x]
def dstF (d : List α) (ks : List α) : List α := ks.foldl dS d
/-- The keys' numbers, behind keys that are met already. -/
def parF (d : List α) : List α → List Int
  | [] => []
  | x :: r => ((dS d x).idxOf x : Int) :: parF (dS d x) r
theorem dstF_snoc (d a : List α) (x : α) : dstF d (a ++ [x]) = dS (dstF d a) x := by unfold dstF; rw [List.foldl_append]; rfl
theorem parF_snoc : ∀ (d a : List α) (x : α), parF d (a ++ [x]) = parF d a ++ [((dS (dstF d a) x).idxOf x : Int)]
  | _, [], _ => rfl
  | d, y :: a, x => by
    show _ :: parF (dS d y) (a ++ [x]) = _ :: parF (dS d y) a ++ _
    rw [parF_snoc (dS d y) a x]; rfl
theorem parF_length : ∀ (d ks : List α), (parF d ks).length = ks.length
  | _, [] => rfl
  | d, x :: r => by show (parF (dS d x) r).length + 1 = _; rw [parF_length]; rfl
theorem dS_yes {d : List α} {x : α} (h : x ∈ d) : dS d x = d := if_pos h
theorem dS_no {d : List α} {x : α} (h : x ∉ d) : dS d x = d ++ [x] := if_neg h
theorem idx_new {d : List α} {x : α} (h : x ∉ d) : (d ++ [x]).idxOf x = d.length := by
  rw [List.idxOf_append, if_neg h]; simp
theorem idx_old {d : List α} {x y : α} (h : y ∈ d) : (d ++ [x]).idxOf y = d.idxOf y := by rw [List.idxOf_append, if_pos h]
theorem dS_length (d : List α) (x : α) : (dS d x).length ≤ d.length + 1 := by unfold dS; split <;> simp
theorem dstF_length : ∀ (ks d : List α), (dstF d ks).length ≤ d.length + ks.length
  | [], d => by simp [dstF]
  | x :: r, d => by
    have h1 := dstF_length r (dS d x)
    have h2 := dS_length d x
    show (dstF (dS d x) r).length ≤ _
    simp; omega

/-- The keys of D are just those of d, each with its place in d. -/
def HoldsN (φ : α → Lit) (D : DataW Unit) (d : List α) : Prop := (∀ kl, has D kl = true ↔ ∃ x, x ∈ d ∧ kl = φ x) ∧ (∀ x, x ∈ d → ∀ z, D.atKey (φ x) z = .lit (.int .i64 (d.idxOf x))) ∧ Maps.size D = d.length
theorem HoldsN.nil (φ : α → Lit) : HoldsN φ (.map []) [] := ⟨fun kl => by simp [has], fun kl h => by simp at h, rfl⟩
theorem HoldsN.put {φ : α → Lit} (hφ : ∀ a b, φ a = φ b → a = b) {D : DataW Unit} {d : List α} (h : HoldsN φ D d) (hD : Tidy D) {x : α} (hk : WideAt.IsKeyLit (φ x)) (hx : x ∉ d) : HoldsN φ (D.put (φ x) (.lit (.int .i64 d.length))) (d ++ [x]) := by
  have hnot : has D (φ x) = false := by
    cases e : has D (φ x) with
    | false => rfl
    | true =>
      obtain ⟨y, hy, e2⟩ := (h.1 (φ x)).1 e
      rw [hφ _ _ e2] at hx; exact absurd hy hx
  refine ⟨fun kl => ?_, fun y hy z => ?_, ?_⟩
  · by_cases e : kl = φ x
    · subst e
      rw [has_put_same hD.isMap hk]
      exact ⟨fun _ => ⟨x, by simp, rfl⟩, fun _ => rfl⟩
    · rw [has_put_other e, h.1 kl]
      constructor
      · rintro ⟨y, hy, rfl⟩; exact ⟨y, List.mem_append_left _ hy, rfl⟩
      · rintro ⟨y, hy, rfl⟩
        rcases List.mem_append.1 hy with hy | hy
        · exact ⟨y, hy, rfl⟩
        · simp at hy; subst hy; exact absurd rfl e
  · by_cases e : y = x
    · subst e
      rw [atKey_put_same hD.isMap hk, idx_new hx]
    · rw [atKey_put_other (fun e2 => e (hφ _ _ e2))]
      have hm : y ∈ d := by simpa [e] using hy
      rw [idx_old hm]
      exact h.2.1 y hm z
  · rw [size_put hD, if_neg (by rw [hnot]; simp), h.2.2]; simp

/-- Block b is a map with keys of the type k that numbers them. -/
def NM (φ : α → Lit) (w : World) (k : TypeId) (b : Nat) (d : List α) : Prop := ∃ (D : DataW Unit) (n : Nat), w.ownsMap Tryd.prog k (plainElem Tryd.prog 2) b n D ∧ HoldsN φ D d ∧ n = d.length
theorem NM.kept {φ : α → Lit} {w w' : World} {k : TypeId} {b : Nat} {d : List α} {row : Option Nat} (h : NM φ w k b d) (hg : w.grownBy w' row) (hne : some b ≠ row) : NM φ w' k b d := by
  obtain ⟨D, n, h1, h2⟩ := h
  exact ⟨D, n, h1.kept hg hne, h2⟩
theorem NM.lt {φ : α → Lit} {w : World} {k : TypeId} {b : Nat} {d : List α} (h : NM φ w k b d) : b < w.heap.size := by obtain ⟨D, n, h1, _⟩ := h; exact h1.lt
theorem NM.below {φ : α → Lit} {w w' : World} {k : TypeId} {b : Nat} {d : List α} (h : NM φ w k b d) (hb : Below w.heap.size w w') : NM φ w' k b d := h.kept (grown_of_below hb none) (by simp)
theorem NM.made (φ : α → Lit) (w : World) (k : TypeId) : NM φ (w.alloc (.map #[] 0)) k w.heap.size [] := ⟨_, 0, World.ownsMap_made _ _ _ _, HoldsN.nil φ, rfl⟩
theorem zeroI (w : World) : (zeroValue 2).run Tryd.prog w = .ok (.int .i64 0) w := by kernel_rfl

/-- A key looked up in such a map, with 'ok'. -/
theorem wpList_look_num {φ : α → Lit} (w : World) {ops : Array Oper} {rest : List Oper} {o : Oper} {a : Act} {Q : Exit → Act → World → Prop} (hg : o.guard = none) (m x : Operand) (t k : TypeId) (hop : o.op = Op.lookup t m x true) (K : Keyed Tryd.prog k) (ht : Tryd.prog.underlying t = some (.map k 2))
    (b : Nat) (d : List α) (hm : a.eval m = .map (some b)) (hown : NM φ w k b d) (key : Value) (x0 : α) (hφ : ∀ a b, φ a = φ b → a = b) (hx : a.eval x = key) (hkey : keyOf Tryd.prog k key = some (φ x0)) (r : Bool) (hr : decide (x0 ∈ d) = r)
    (hK : ∀ c : Int, (x0 ∈ d → c = d.idxOf x0) → wpList Tryd.prog ops Q rest (a.put o.dst (.tuple #[.int .i64 c, .bool r])) w) :
    wpList Tryd.prog ops Q (o :: rest) a w := by
  obtain ⟨D, n, h1, h2, _⟩ := hown
  refine wpList_lookup_own_ok_int (H := Unit) w hg m x t hop k 2 .i64 K ht Tryd.underlying2 (zeroI w) b n D hm h1 key (φ x0) hx hkey ?_
  intro c hc _
  have e : Maps.has D (φ x0) = r := by
    rw [← hr, Bool.eq_iff_iff, h2.1, decide_eq_true_iff]
    exact ⟨fun ⟨y, hy, e⟩ => by rw [hφ _ _ e]; exact hy, fun h => ⟨x0, h, rfl⟩⟩
  rw [e]
  refine hK c fun hin => ?_
  have h3 := h2.2.1 x0 hin (.lit (.int .i64 0))
  rw [hc] at h3
  simpa using h3
/-- How many keys it has. -/
theorem wpList_len_num {φ : α → Lit} (w : World) {ops : Array Oper} {rest : List Oper} {o : Oper} {a : Act} {Q : Exit → Act → World → Prop} (hg : o.guard = none) (m : Operand) (t k : TypeId) (hop : o.op = Op.call { callee := Callee.builtin Builtin.len, args := #[m], argTypes := #[t] }) (ht : Tryd.prog.underlying t = some (.map k 2))
    (b : Nat) (d : List α) (hm : a.eval m = .map (some b)) (hown : NM φ w k b d) (hK : wpList Tryd.prog ops Q rest (a.put o.dst (.int .i64 d.length)) w) :
    wpList Tryd.prog ops Q (o :: rest) a w := by
  obtain ⟨D, n, h1, h2, _⟩ := hown
  refine wpList_len_own (H := Unit) w hg m t hop k 2 ht _ b n D hm h1 ?_
  rw [h2.2.2]; exact hK
/-- A new key put in, with the next number. -/
theorem wpList_put_num {φ : α → Lit} (w : World) {ops : Array Oper} {rest : List Oper} {o : Oper} {a : Act} {Q : Exit → Act → World → Prop} (hg : o.guard = none) (m x v : Operand) (t k : TypeId) (hop : o.op = Op.mapUpdate t m x v) (K : Keyed Tryd.prog k) (ht : Tryd.prog.underlying t = some (.map k 2))
    (b : Nat) (d : List α) (hm : a.eval m = .map (some b)) (hown : NM φ w k b d) (hn : d.length < maxLen) (key : Value) (x0 : α) (hφ : ∀ a b, φ a = φ b → a = b) (hx : a.eval x = key) (hkey : keyOf Tryd.prog k key = some (φ x0)) (hkl : WideAt.IsKeyLit (φ x0)) (hnew : x0 ∉ d) (hv : a.eval v = .int .i64 d.length)
    (hK : ∀ w', NM φ w' k b (d ++ [x0]) → w.grownBy w' (some b) → wpList Tryd.prog ops Q rest (a.put o.dst undef) w') :
    wpList Tryd.prog ops Q (o :: rest) a w := by
  obtain ⟨D, n, h1, h2, h3⟩ := hown
  subst h3
  have hw : (Lit.int .i64 (d.length : Int)).wf = true := WalkArith.wf_i64 (by unfold maxLen at hn; omega)
  refine wpList_mapUpdate_own (H := Unit) w hg m x v t hop k 2 K ht _ b _ D hm h1 hn key _ (φ x0) hx hv hkey (.lit (.int .i64 d.length)) [] (plainElem_int Tryd.underlying2 hw) ?_
  intro w' hw' hg'
  exact hK w' ⟨_, _, hw', h2.put hφ (h1.tidy K) hkl hnew, by simp⟩ hg'
end
end Go.Proofs.YtffofebmdmdeoaaDoor
