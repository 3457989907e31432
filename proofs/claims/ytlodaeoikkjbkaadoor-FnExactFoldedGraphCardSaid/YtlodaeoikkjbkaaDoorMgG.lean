/-
  Several texts in one: Qa Rr.
-/
import Derived.Test.YtlodaeoikkjbkaaDoorMgF
import Derived.Test.YtlodaeoikkjbkaaDoorFr
import Derived.Test.YtlodaeoikkjbkaaDoorMgD
import Derived.Test.YtlodaeoikkjbkaaDoorTt
import Derived.Maps.OwnIn
import Derived.RangeFuncWrites
import Derived.Deep.RegionHeld3
import Derived.Test.YtlodaeoikkjbkaaDoorSeq
namespace Go.Proofs.YtlodaeoikkjbkaaDoor
set_option maxRecDepth 100000
set_option maxRecDepth 100000
open Go.RowKit Go.Shelf

attribute [local go_sem] Oper.semAt_some

theorem fin_mapP {α : Type} (m : Nat) (g : Nat → α) : (List.finRange m).map (fun x : Fin m => g x.1) = (List.range m).map g := by
  apply List.ext_getElem <;> simp

/-- As TSc, and no two of the lists lie in one block. -/
def TLc (w : World) (B : Nat) (v : Value) (Ts : List (List Int)) (cs : List Value) : Prop := TSc w B v Ts cs ∧
  ∀ (i j : Nat) (x y : Value) (b : Nat), i ≠ j → cs[i]? = some x → cs[j]? = some y → x.ownBlock = some b → y.ownBlock ≠ some b
def TL (w : World) (B : Nat) (v : Value) (Ts : List (List Int)) : Prop := ∃ cs : List Value, TLc w B v Ts cs
theorem ownsRow_cells {w : World} {B : Nat} {t : TypeId} {s n : Nat} {v : Value} {xs : List Value} (h : w.ownsRow B t s v n xs) : ∀ k, v.ownBlock = some k → ∃ o : Obj, w.heap[k]? = some o ∧ o.isCells = true := by
  intro k e
  rcases h.2 with ⟨rfl, _⟩ | ⟨g, cap, cur, rfl, _, hgb, _⟩
  · cases e
  · obtain rfl : g = k := by simpa [Value.ownBlock] using e
    exact ⟨_, hgb, rfl⟩
theorem row_far {w : World} {B : Nat} {t : TypeId} {s n : Nat} {v : Value} {xs : List Value} {row : Option Nat} (h : w.ownsRow B t s v n xs) (hrow : ∀ r, row = some r → ∃ o : Obj, w.heap[r]? = some o ∧ o.isCells = false) : v.ownBlock = none ∨ v.ownBlock ≠ row := by
  cases e : v.ownBlock with
  | none => exact .inl rfl
  | some k =>
    refine .inr fun e2 => ?_
    obtain ⟨o, h1, h2⟩ := ownsRow_cells h k e
    obtain ⟨o2, h3, h4⟩ := hrow k e2.symm
    rw [h1] at h3; cases h3; rw [h2] at h4; cases h4
theorem TL.kept {w w' : World} {B : Nat} {v : Value} {Ts : List (List Int)} {row : Option Nat} (h : TL w B v Ts) (hg : w.grownBy w' row) (hrow : ∀ r, row = some r → ∃ o : Obj, w.heap[r]? = some o ∧ o.isCells = false) : TL w' B v Ts := by
  obtain ⟨cs, ⟨h1, h2, h3⟩, h4⟩ := h
  refine ⟨cs, ⟨World.ownsRow.kept h1 hg (row_far h1 hrow), h2, fun i hi => ?_⟩, h4⟩
  obtain ⟨u, a, b, c⟩ := h3 i hi
  exact ⟨u, a, b.kept hg (row_far b hrow), c⟩
theorem TLc.below {w w' : World} {B : Nat} {v : Value} {Ts : List (List Int)} {cs : List Value} (h : TLc w B v Ts cs) (hb : Below w.heap.size w w') : TLc w' B v Ts cs := ⟨h.1.below hb, h.2⟩
theorem TLc.lt {w : World} {B : Nat} {v : Value} {Ts : List (List Int)} {cs : List Value} (h : TLc w B v Ts cs) {i : Nat} {x : Value} (hx : cs[i]? = some x) {b : Nat} (hb : x.ownBlock = some b) : b < w.heap.size := by
  obtain ⟨⟨_, h2, h3⟩, _⟩ := h
  have hi : i < cs.length := (List.getElem?_eq_some_iff.1 hx).1
  obtain ⟨u, a, c, _⟩ := h3 i (by omega)
  rw [hx] at a; cases a
  exact c.lt _ hb
/-- One list more, appended, in a block that is newer than those of the others. -/
theorem TLc.snoc {w w' : World} {B H : Nat} {v v' u : Value} {Ts : List (List Int)} {t : List Int} {cs : List Value} (h : TLc w B v Ts cs) (hu : Own w B u t) (hne : u.ownBlock = none ∨ u.ownBlock ≠ v.ownBlock) (ht : t = [] → u = .slice none 0 0)
    (hown : w'.ownsRow B 22 1 v' (Ts.length + 1) (cs ++ [u])) (hg : w.grownBy w' v.ownBlock) (hloc : v'.ownBlock = v.ownBlock ∨ v'.ownBlock = some w.heap.size)
    (hold : ∀ (i : Nat) (x : Value) (b : Nat), cs[i]? = some x → x.ownBlock = some b → b < H) (hnew : ∀ b, u.ownBlock = some b → H ≤ b) : TL w' B v' (Ts ++ [t]) := by
  obtain ⟨⟨h1, h2, h3⟩, h4⟩ := h
  have far : ∀ {x : Value} {L : List Int}, Own w B x L → (x.ownBlock = none ∨ x.ownBlock ≠ v.ownBlock) → (x.ownBlock = none ∨ x.ownBlock ≠ v'.ownBlock) := fun {x L} hx hn => by
    rcases hn with hn | hn
    · exact .inl hn
    · rcases hloc with e | e
      · exact .inr (by rw [e]; exact hn)
      · cases hb : x.ownBlock with
        | none => exact .inl rfl
        | some k => exact .inr (fun e2 => by rw [e] at e2; cases e2; have := hx.lt _ hb; omega)
  have keep : ∀ {x : Value} {L : List Int}, Own w B x L → (x.ownBlock = none ∨ x.ownBlock ≠ v.ownBlock) → Own w' B x L := fun {x L} hx hn => hx.kept hg hn
  refine ⟨cs ++ [u], ⟨by rw [List.length_append]; exact hown, by simp [h2], fun i hi => ?_⟩, fun i j x y b hij hx hy hb hc => ?_⟩
  · rw [List.length_append, List.length_singleton] at hi
    by_cases e : i < Ts.length
    · obtain ⟨x, a, b, c, d⟩ := h3 i e
      rw [elS_left _ _ _ e]
      exact ⟨x, by rw [List.getElem?_append_left (by omega)]; exact a, keep b c, far b c, d⟩
    · obtain rfl : i = Ts.length := by omega
      rw [elS_end]
      exact ⟨u, by rw [← h2]; simp, keep hu hne, far hu hne, ht⟩
  · have hi := (List.getElem?_eq_some_iff.1 hx).1
    have hj := (List.getElem?_eq_some_iff.1 hy).1
    rw [List.length_append, List.length_singleton] at hi hj
    by_cases ei : i < cs.length
    · rw [List.getElem?_append_left ei] at hx
      by_cases ej : j < cs.length
      · rw [List.getElem?_append_left ej] at hy
        exact h4 i j x y b hij hx hy hb hc
      · obtain rfl : j = cs.length := by omega
        have hyu : u = y := by simpa using hy
        have g1 := hold i x b hx hb
        have g2 := hnew b (by rw [hyu]; exact hc)
        omega
    · obtain rfl : i = cs.length := by omega
      have hxu : u = x := by simpa using hx
      have ej : j < cs.length := by omega
      rw [List.getElem?_append_left ej] at hy
      have g1 := hold j y b hy hc
      have g2 := hnew b (by rw [hxu]; exact hb)
      omega
theorem keeps_grown {B : Nat} {W W' : World} {row : Option Nat} (hg : W.grownBy W' row) (hrow : ∀ r, row = some r → ∃ o : Obj, W.heap[r]? = some o ∧ o.isCells = true) : KeepsFrom B W W' :=
  ⟨hg.size, fun k o _ hk ho => (hg.block k (Array.getElem?_eq_some_iff.1 hk).1 (fun e => by obtain ⟨o2, h1, h2⟩ := hrow k e.symm; rw [hk] at h1; cases h1; rw [h2] at ho; cases ho)).trans hk⟩

theorem partsIn_any (x v : Value) (w : World) : Calls Tryd.prog 75 #[.agg #[x, v]] w fun e w' => e = .returned (.func (.func 85) #[] #[.pointer (some ⟨w.heap.size, 0, none⟩)]) ∧ w' = w.alloc (.cells #[x, v] 28) := by
  go_enter Tryd.func75, Tryd.ntmps75
  go_wp2
  go_ret
  exact ⟨rfl, rfl⟩

theorem parts_stops (n : Nat) (hn : 1 ≤ n) (a n₀ b off cap : Nat) (zs : List Int) (F : Nat → Nat × Nat) (p : Nat) (hg : isG zs.length zs = true) (hF : ∀ v, v < zs.length → RD zs v (F v)) (hp : PN zs.length F p) (w : World)
    (ha : w.heap[a]? = some (.cells #[.int .i64 zs.length, .slice (some ⟨b, off, none⟩) zs.length cap] 28 (0, 0))) (hb : b < n₀) (hc : Cells w b off zs) (hT : Tab w) (hT0 : 0 < n₀) (hn0 : n₀ ≤ w.heap.size) :
    SeqStopsK Fence.wide n Tryd.prog 85 #[.pointer (some ⟨a, 0, none⟩)] (fun x : Fin p => #[.int .i64 ((F (lo (lfN zs.length F x.1))).1 : Nat), .int .i64 ((F (lo (lfN zs.length F x.1))).2 : Nat)]) (KpG n₀ a) (fun ys => ys = List.finRange p) (fun pre => pre <+: List.finRange p) p w := by
  intro l J Jx W hW hJ _ hY h0
  exact parts1_in n hn l W.heap.size a n₀ b off cap zs F p hg hF hp J Jx hJ hY W ((hW.block a (Array.getElem?_eq_some_iff.1 ha).1).trans ha) hb (hc.below hW (by omega)) (hT.belowAll hW) hT0 (Nat.le_trans hn0 hW.size) h0
end Go.Proofs.YtlodaeoikkjbkaaDoor
namespace Go.Proofs.YtlodaeoikkjbkaaDoor
open Go.RowKit

theorem op_round {P : Program} {ops : Array Oper} {Q : Exit → Act → World → Prop} {l n : Nat} (hnd : ∀ (i : Nat) (o : Oper), ops[i]? = some o → ∀ c, o.op ≠ .defer c) (hlo : ¬ LetsOut Q)
    {i : Nat} {K K' : Act → World → Prop} {a : Act} {w : World} (hK : ∀ a w, K a w → K' a w) (h : wpOp P ops Q i K a w) : wpOpIn (Fence.wide.inRound l) n P ops Q i K' a w := by
  unfold wpOp at h
  unfold wpOpIn
  cases ho : ops[i]? with
  | none => simp only [ho] at h ⊢; exact hK _ _ h
  | some o =>
    simp only [ho] at h ⊢
    by_cases hw : Region.wanted o (yielded ops a.tmps) = true
    · rw [if_pos hw] at h ⊢
      rcases h with h | h
      · refine ⟨fun _ _ => trivial, ?_⟩
        unfold Oper.wp at h
        rw [Oper.semAt_eq _ _ _ (hnd i o ho)]
        generalize (execOp a.eval o).run P w = r at h ⊢
        cases r with
        | ok x w' =>
          cases x <;> simp only [Oper.upon, Oper.uponIn] at h ⊢
          all_goals first
            | exact hK _ _ h
            | exact ⟨fun hd => by simp [Fence.inRound, Fence.wide] at hd, CallsIn.inRound l ((callsIn_wide.2 h).mono fun e w'' he => by cases e <;> first | exact hK _ _ he | exact he)⟩
            | exact ⟨fun hd => by simp [Fence.inRound, Fence.wide] at hd, fun c cs _ => let ⟨v, w'', r, s⟩ := h c cs; ⟨v, w'', hK _ _ r, stepsIn_wide.2 s⟩⟩
        | halt x w' => cases x <;> simp only [Oper.upon, Oper.uponIn] at h ⊢ <;> exact h
      · exact absurd h.2 hlo
    · rw [if_neg hw] at h ⊢
      exact ⟨fun _ _ => trivial, hK _ _ h⟩

theorem any_round {P : Program} {md : Region.Mode} {ops : Array Oper} {Q : Exit → Act → World → Prop} {l n : Nat} (hnd : ∀ (i : Nat) (o : Oper), ops[i]? = some o → ∀ c, o.op ≠ .defer c) (hlo : ¬ LetsOut Q) :
    ∀ (fuel : Nat) (listed : Array Bool) (a : Act) (w : World), wpAny P md ops Q fuel listed a w → wpAnyIn (Fence.wide.inRound l) n P md ops Q fuel listed a w
  | 0, _, _, _, h => h
  | fuel + 1, _, _, _, h => ⟨h.1, fun i hi => op_round hnd hlo (fun a w hk => any_round hnd hlo fuel _ a w hk) (h.2 i hi)⟩

def notDefer : Op → Bool
  | .defer _ => false
  | _ => true
theorem noDefer_spec {ops : Array Oper} (h : ops.all (fun o => notDefer o.op) = true) (i : Nat) (o : Oper) (ho : ops[i]? = some o) : ∀ c, o.op ≠ .defer c := by
  intro c e
  rw [Array.all_eq_true] at h
  obtain ⟨hi, hh⟩ := Array.getElem?_eq_some_iff.1 ho
  have := h i hi
  rw [hh, e] at this
  cases this

def OnlyNormal (Q : Exit → Act → World → Prop) : Exit → Act → World → Prop
  | .normal, a, w => Q .normal a w
  | _, _, _ => False
theorem OnlyNormal.imp {Q : Exit → Act → World → Prop} (e : Exit) (a : Act) (w : World) (h : OnlyNormal Q e a w) : Q e a w := by
  cases e <;> first | exact h | exact (h : False).elim
theorem region_round {P : Program} {id : Nat} {ops : Array Oper} {Q : Exit → Act → World → Prop} {a : Act} {w : World} {l n : Nat} (S : World → Prop) (hm : P.follows .mixedOrders = true) (hnd : ops.all (fun o => notDefer o.op) = true) (hS : S w.drew)
    (h : S w.drew → wpAnyH P .any ops (OnlyNormal Q) S ops.size (Array.replicate ops.size false) a w.drew) : (Code.region id ops true).wpIn (Fence.wide.inRound l) n P Q a w :=
  Code.wpIn_mono OnlyNormal.imp (wpIn_region_any hm (any_round (noDefer_spec hnd) (fun ⟨_, _, e⟩ => e) _ _ _ _ (wpAny_of_held _ _ _ _ (h hS))))
end Go.Proofs.YtlodaeoikkjbkaaDoor
