/-
  A loop over an iterator that itself loops over an iterator: the iterator may turn records of its own, and the loop's body keeps them.
-/
import Derived.RangeFuncNested
namespace Go.Proofs.YtibpnemeehkdbaaDoor
set_option maxRecDepth 100000
open Go.RowKit

/-- The contract of an iterator that lays and turns records of its own (no cells) between two rounds.
 Rd: what the loop's invariant says of memory, for the iterator to read; Nx: what is handed to a round; A: blocks that the iterator has laid, which a round keeps. -/
def SeqO {α : Type} (F : Fence) (n : Nat) (P : Program) (g : Nat) (lb : Array Value) (encs : α → Array Value) (Kp : World → World → Prop) (Rd : List α → World → Prop) (Nx : List α → α → Prop) (S Sp : List α → Prop) (w : World) : Prop :=
  ∀ (l : Nat) (J : List Nat → List α → World → Prop) (Jx : List α → World → Prop) (W : World), Below w.heap.size w W → (∀ A, OwnFrom W.heap.size (J A)) → OwnFrom W.heap.size Jx →
    (∀ A pre X o, J A pre X → J (X.heap.size :: A) pre (X.alloc o)) → (∀ A pre X, J A pre X → Rd pre X ∧ W.heap.size ≤ X.heap.size) →
    (∀ A pre x X, J A pre X → Nx pre x → YieldAt F (n - 1) P l (encs x) X fun e X' => KeepsFrom W.heap.size X X' ∧
      ((e = .returned (.bool true) ∧ J A (pre ++ [x]) X' ∧ Kp X X' ∧ ∀ k, k ∈ A → X'.heap[k]? = X.heap[k]?) ∨ (e = .returned (.bool false) ∧ Jx (pre ++ [x]) X'))) →
    J [] [] W →
    CallsIn F n P g (#[.func (.yield l) #[] #[]] ++ lb) W fun e W' => (∃ v, e = .returned v) ∧ ((∃ xs A, S xs ∧ J A xs W') ∨ (∃ pre, Sp pre ∧ Jx pre W'))

theorem OwnFrom.up {β : Type} {B B' : Nat} {I : β → World → Prop} (h : OwnFrom B I) (hb : B ≤ B') : OwnFrom B' I :=
  fun s X Y row hs hg hr => h s X Y row hs hg (fun r e => ⟨Nat.le_trans hb (hr r e).1, (hr r e).2⟩)
theorem KeepsFrom.up {B B' : Nat} {X Y : World} (h : KeepsFrom B X Y) (hb : B ≤ B') : KeepsFrom B' X Y := ⟨h.size, fun k o hk => h.same k o (Nat.le_trans hb hk)⟩
theorem KeepsFrom.put {B l : Nat} {X : World} (o : Obj) (hl : l < B) : KeepsFrom B X (X.putObj l o) :=
  ⟨by simp, fun k o' hk h _ => (World.putObj_heap_other (by omega)).trans h⟩
/-- What lies below B goes through a step that turns blocks from B on. -/
theorem step_low {B k : Nat} {o : Obj} {X Y : World} {row : Option Nat} (hk : k < B) (hg : X.grownBy Y row) (hr : ∀ r, row = some r → B ≤ r ∧ ∃ o : Obj, X.heap[r]? = some o ∧ o.isCells = false) (h : X.heap[k]? = some o) : Y.heap[k]? = some o :=
  (hg.block k (Array.getElem?_eq_some_iff.1 h).1 (fun e => by have := (hr k e.symm).1; omega)).trans h

variable {F : Fence} {n : Nat} {P : Program}

/-- The loop over such an iterator. The body owes what it owes in any loop over an iterator. -/
theorem wpIn_rangeO {α : Type} {g : Operand} {ps : Array Tmp} {assign body : Code} {Q : Exit → Act → World → Prop} {a : Act} {w : World}
    (hro : F.round = none) (h1 : 1 ≤ n) {gf : Nat} {lb : Array Value} (hg : a.eval g = .func (.func gf) #[] lb) (hFg : F.fn gf) (eg : ∀ args w, (callFunc gf args).run P w = .ok (.enter gf args) w)
    {encs : α → Array Value} {Kp : World → World → Prop} {Rd : List α → World → Prop} {Nx : List α → α → Prop} {S Sp : List α → Prop} {w0 : World} (hseq : SeqO F (n - 1) P gf lb encs Kp Rd Nx S Sp w0)
    (hKt : ∀ {A B C : World}, Kp A B → Kp B C → Kp A C) (hKb : ∀ (W : World) (l : Nat) (o o' : Obj), w.heap.size ≤ l → W.heap[l]? = some o → o.isCells = false → o.isWalk = false → Kp W (W.putObj l o')) (hb0 : Below w0.heap.size w0 w) (hps : ∀ x, (encs x).size = ps.size)
    (I : List Nat → List α → World → Prop) (Ix : Code → List α → World → Prop) (hI : ∀ A, OwnFrom w.heap.size (I A)) (hIx : ∀ c, OwnFrom w.heap.size (Ix c))
    (hgrow : ∀ A pre X o, w.heap.size ≤ X.heap.size → I A pre X → I (X.heap.size :: A) pre (X.alloc o)) (hRd : ∀ A pre X, I A pre X → Rd pre X) (h0 : I [] [] w) (a₁ : α → Act)
    (hassign : ∀ (l : Nat) (x : α) (W : World) (K : Act → World → Prop), K (a₁ x) W →
      assign.wpIn (F.inRound l) (n - 1 - 1) P (Exit.then K (fun _ _ _ => False)) { tmps := (ps.zip (encs x)).foldl (fun t (p, v) => t.setIfInBounds p v) a.tmps, defers := [] } W)
    (hbody : ∀ (l : Nat) (A : List Nat) (pre : List α) (x : α) (W : World), w.heap.size ≤ l → (∃ r, W.heap[l]? = some (.loop r)) → I A pre W → (∀ k, k ∈ A → w.heap.size ≤ k) → w.heap.size ≤ W.heap.size → Nx pre x →
      body.wpIn (F.inRound l) (n - 1 - 1) P (ownPostG w.heap.size (fun X X' => Kp X X' ∧ ∀ k, k ∈ A → X'.heap[k]? = X.heap[k]?) (I A) Ix (pre ++ [x]) W) (a₁ x) W)
    (hdone : ∀ (D : Nat) (A : List Nat) (xs : List α) (W : World), w.heap.size ≤ D → S xs → I A xs W → W.heap[D]? = some (.deferred (some [])) → Q .normal { a with defers := { target := .collected D, args := #[] } :: a.defers } W)
    (hstop : ∀ (D : Nat) (c : Code) (pre : List α) (W : World), w.heap.size ≤ D → Sp pre → Ix c pre W → W.heap[D]? = some (.deferred (some [])) → c.wpIn F n P Q { a with defers := { target := .collected D, args := #[] } :: a.defers } W) :
    (Code.rangeFunc g ps assign body).wpIn F n P Q a w := by
  refine wpIn_rangeFunc fun fn hfn => ?_
  rw [hro]
  -- the loop's record, by its state and the jump that it keeps
  obtain ⟨R, hR⟩ : ∃ R : LoopState → Option Code → Loop, R = fun st pe => { state := st, pending := pe, fn, tmps := a.tmps, params := ps, assign, body, defers := w.heap.size } := ⟨_, rfl⟩
  have hst : ∀ st pe, (R st pe).state = st := fun st pe => by rw [hR]
  obtain ⟨V, hV⟩ : ∃ V, (w.alloc (.deferred (some []))).alloc (.loop (R .ready none)) = V := ⟨_, rfl⟩
  have hsz : V.heap.size = w.heap.size + 2 := by rw [← hV]; simp
  have vL : V.heap[w.heap.size + 1]? = some (.loop (R .ready none)) := by
    have h := World.alloc_heap_new (w.alloc (.deferred (some []))) (.loop (R .ready none))
    rw [World.size_alloc, hV] at h; exact h
  have vD : V.heap[w.heap.size]? = some (.deferred (some [])) := by
    rw [← hV]; exact (Below.heap_alloc _ _ _ (by simp)).trans (World.alloc_heap_new w _)
  have vI : I [] [] V := by rw [← hV]; exact (hI []).alloc _ ((hI []).alloc _ h0)
  have vB : Below w0.heap.size w0 V := by
    rw [← hV]; exact hb0.trans ((((Below.refl _ w).alloc (Nat.le_refl _) _).alloc (by simp) _).mono hb0.size)
  refine ⟨w.heap.size + 1, [{ target := .collected w.heap.size, args := #[] }], V, { target := .fn (.func gf) lb, args := #[.func (.yield (w.heap.size + 1)) #[] #[]] }, V, gf,
    #[.func (.yield (w.heap.size + 1)) #[] #[]] ++ lb, V, ?_, ?_, ?_, ?_, fun _ => h1, ?_⟩
  · rw [← hV, hR]; exact run_enterLoop_outer _ _ _ _ _
  · simp only [resolve, hg]
    simp [go_sem]
  · intro f' hf'; simp [Target.leads] at hf'; subst hf'; exact hFg
  · simp [invoke, go_sem, eg]
  have low : ∀ {X : World} {row : Option Nat}, (∀ r, row = some r → V.heap.size ≤ r ∧ ∃ o : Obj, X.heap[r]? = some o ∧ o.isCells = false) → (∀ r, row = some r → w.heap.size ≤ r ∧ ∃ o : Obj, X.heap[r]? = some o ∧ o.isCells = false) :=
    fun hr r e => ⟨by have := (hr r e).1; omega, (hr r e).2⟩
  refine (hseq (w.heap.size + 1)
    (fun A pre X => (I A pre X ∧ X.heap[w.heap.size + 1]? = some (.loop (R .ready none)) ∧ X.heap[w.heap.size]? = some (.deferred (some []))) ∧ V.heap.size ≤ X.heap.size ∧ ∀ k, k ∈ A → V.heap.size ≤ k)
    (fun pre X => ∃ c, Ix c pre X ∧ X.heap[w.heap.size + 1]? = some (.loop (R .done (some c))) ∧ X.heap[w.heap.size]? = some (.deferred (some [])))
    V vB
    (fun A s X Y row hs hg' hr => ⟨⟨hI A s X Y row hs.1.1 hg' (low hr), step_low (by omega) hg' hr hs.1.2.1, step_low (by omega) hg' hr hs.1.2.2⟩, Nat.le_trans hs.2.1 hg'.size, hs.2.2⟩)
    (fun s X Y row ⟨c, hc, hl, hk⟩ hg' hr => ⟨c, hIx c s X Y row hc hg' (low hr), step_low (by omega) hg' hr hl, step_low (by omega) hg' hr hk⟩)
    (fun A pre X o hs => ⟨⟨hgrow A pre X o (by have := hs.2.1; omega) hs.1.1, (Below.heap_alloc _ _ _ (Array.getElem?_eq_some_iff.1 hs.1.2.1).1).trans hs.1.2.1, (Below.heap_alloc _ _ _ (Array.getElem?_eq_some_iff.1 hs.1.2.2).1).trans hs.1.2.2⟩, by have := hs.2.1; simp; omega,
      fun k hk => (List.mem_cons.1 hk).elim (fun e => e ▸ hs.2.1) (hs.2.2 k)⟩)
    (fun A pre X h => ⟨hRd A pre X h.1.1, h.2.1⟩) ?_ ⟨⟨vI, vL, vD⟩, Nat.le_refl _, fun _ h => by cases h⟩).mono ?_
  · -- a round
    rintro A pre x X ⟨⟨hi, hl, hk⟩, hsX, hAX⟩ hnx
    have hlt : w.heap.size + 1 < X.heap.size := (Array.getElem?_eq_some_iff.1 hl).1
    have hy := run_yield (P := P) (args := encs x) hl (by rw [hR]; exact hps x)
    rw [hR] at hy
    refine ⟨fn, _, assign, body, hy, roundIn_of_wpIn hfn (hassign _ x X _ ⟨_, run_beginRound hl (hst _ _), ?_⟩)⟩
    clear hy
    obtain ⟨bz, hbz⟩ : ∃ bz : Loop, bz = { R .ready none with state := .busy } := ⟨_, rfl⟩
    rw [← hbz]
    have hl2 : (X.putObj (w.heap.size + 1) (.loop bz)).heap[w.heap.size + 1]? = some (.loop bz) := World.putObj_heap_same hlt
    have hk2 : (X.putObj (w.heap.size + 1) (.loop bz)).heap[w.heap.size]? = some (.deferred (some [])) := (World.putObj_heap_other (by omega)).trans hk
    have hp2 : Kp X (X.putObj (w.heap.size + 1) (.loop bz)) := hKb _ _ _ _ (by omega) hl rfl rfl
    have hf2 : KeepsFrom V.heap.size X (X.putObj (w.heap.size + 1) (.loop bz)) := KeepsFrom.put _ (by omega)
    refine wpIn_mono (hbody _ A pre x _ (by omega) ⟨_, hl2⟩ ((hI A).putObj _ hi (by omega) hl rfl) (fun k hk => by have := hAX k hk; omega) (by simp; omega) hnx) ?_
    -- how a round ends, whatever jump it leaves
    have fin : ∀ (jump : Option Code) (Y : World), KeepsFrom w.heap.size (X.putObj (w.heap.size + 1) (.loop bz)) Y →
        ∃ Y', Y' = Y.putObj (w.heap.size + 1) (.loop (R (if jump.isNone then .ready else .done) jump)) ∧ (Instr.endRound (w.heap.size + 1) jump).run P Y = .ok (.bool jump.isNone) Y' ∧
          Y.heap[w.heap.size + 1]? = some (.loop bz) ∧ Y'.heap[w.heap.size + 1]? = some (.loop (R (if jump.isNone then .ready else .done) jump)) ∧
          Y'.heap[w.heap.size]? = some (.deferred (some [])) ∧ KeepsFrom V.heap.size X Y' := fun jump Y hY => by
      have hl3 := hY.same _ _ (by omega) hl2 rfl
      have he := run_endRound (P := P) jump hl3
      refine ⟨_, rfl, ?_, hl3, World.putObj_heap_same (Array.getElem?_eq_some_iff.1 hl3).1, (World.putObj_heap_other (by omega)).trans (hY.same _ _ (Nat.le_refl _) hk2 rfl), (hf2.trans (KeepsFrom.up hY (by omega))).trans (KeepsFrom.put _ (by omega))⟩
      rw [hbz, hR] at he
      rw [hR]; exact he
    rintro e a3 Y hp
    cases e with
    | normal =>
      obtain ⟨h3, ⟨h4, h6⟩, h5⟩ := hp
      obtain ⟨Y', rfl, hr, q1, q2, q3, q4⟩ := fin none Y h3
      exact ⟨_, _, hr, q4, .inl ⟨rfl, ⟨⟨(hI A).putObj _ h5 (by omega) q1 rfl, q2, q3⟩, Nat.le_trans hsX q4.size, hAX⟩, hKt (hKt hp2 h4) (hKb _ _ _ _ (by omega) q1 (by rfl) (by rfl)),
        fun k hk => (World.putObj_heap_other (by have := hAX k hk; omega)).trans ((h6 k hk).trans (World.putObj_heap_other (by have := hAX k hk; omega)))⟩⟩
    | ret =>
      obtain ⟨h3, h5⟩ := hp
      obtain ⟨Y', rfl, hr, q1, q2, q3, q4⟩ := fin (some .ret) Y h3
      exact ⟨_, _, hr, q4, .inr ⟨rfl, .ret, (hIx _).putObj _ h5 (by omega) q1 rfl, q2, q3⟩⟩
    | exit id =>
      obtain ⟨h3, h5⟩ := hp
      obtain ⟨Y', rfl, hr, q1, q2, q3, q4⟩ := fin (some (.exit id)) Y h3
      exact ⟨_, _, hr, q4, .inr ⟨rfl, .exit id, (hIx _).putObj _ h5 (by omega) q1 rfl, q2, q3⟩⟩
    | goto t =>
      obtain ⟨h3, h5⟩ := hp
      obtain ⟨Y', rfl, hr, q1, q2, q3, q4⟩ := fin (some (.goto t)) Y h3
      exact ⟨_, _, hr, q4, .inr ⟨rfl, .goto t, (hIx _).putObj _ h5 (by omega) q1 rfl, q2, q3⟩⟩
    | panic ch => exact hp.elim
    | outgrown => exact hp.elim
  · -- behind the iterator
    rintro e Y ⟨⟨v, rfl⟩, (⟨xs, A, hS, ⟨hi, hl, hk⟩, _⟩ | ⟨pre, hSp, c, hi, hl, hk⟩)⟩
    · have he := run_endLoop (P := P) hl (by rw [hst]; simp)
      exact ⟨none, _, by rw [hR] at he; exact he, hdone _ A xs _ (Nat.le_refl _) hS ((hI A).putObj _ hi (by omega) hl rfl) ((World.putObj_heap_other (by omega)).trans hk)⟩
    · have he := run_endLoop (P := P) hl (by rw [hst]; simp)
      exact ⟨some c, _, by rw [hR] at he; exact he, hstop _ c pre _ (Nat.le_refl _) hSp ((hIx c).putObj _ hi (by omega) hl rfl) ((World.putObj_heap_other (by omega)).trans hk)⟩
end Go.Proofs.YtibpnemeehkdbaaDoor
