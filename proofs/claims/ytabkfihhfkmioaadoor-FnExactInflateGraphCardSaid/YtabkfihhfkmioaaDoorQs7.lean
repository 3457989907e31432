/-
  Lists of lists in a law: read, compared, marked, held. (A tied seat of graphs; out of Ss, Su, Tp and Ud.)
-/
import Derived.Test.YtabkfihhfkmioaaDoorTl7
import Derived.Test.YtabkfihhfkmioaaDoorMark
import Derived.Deep.RegionWith
namespace Go.Proofs.YtabkfihhfkmioaaDoor
set_option maxRecDepth 100000
set_option maxRecDepth 100000
open Go.RowKit

/-- How many numbers the first k lists have. -/
def tot (Ls : List (List Int)) : Nat → Nat
  | 0 => 0
  | k + 1 => tot Ls k + (elS Ls k).length

theorem tot_mono (Ls : List (List Int)) (k : Nat) : ∀ m, k ≤ m → tot Ls k ≤ tot Ls m
  | 0, h => by obtain rfl : k = 0 := by omega
               exact Nat.le_refl _
  | m + 1, h => by
    by_cases e : k = m + 1
    · subst e; exact Nat.le_refl _
    · exact Nat.le_trans (tot_mono Ls k m (by omega)) (Nat.le_add_right _ _)

/-- The slice value v reads as the lists of Ls. -/
def SS (w : World) (v : Value) (Ls : List (List Int)) : Prop :=
  (∃ a c, v = .slice a 0 c ∧ Ls = []) ∨ ∃ (b off cap : Nat) (u : Nat → Value), v = .slice (some ⟨b, off, none⟩) Ls.length cap ∧ b < w.heap.size ∧ ∀ i, i < Ls.length → w.cell? ⟨b, off + i, none⟩ = some (u i) ∧ Sl w (u i) (elS Ls i)

theorem SS.below {w w' : World} {v : Value} {Ls : List (List Int)} (h : SS w v Ls) (hb : Below w.heap.size w w') : SS w' v Ls := by
  rcases h with h | ⟨b, off, cap, u, e, hl, hc⟩
  · exact .inl h
  · exact .inr ⟨b, off, cap, u, e, Nat.lt_of_lt_of_le hl hb.size, fun i hi => ⟨(hb.cell (p := ⟨b, off + i, none⟩) hl).trans (hc i hi).1, (hc i hi).2.below hb⟩⟩

theorem SS.form {w : World} {v : Value} {Ls : List (List Int)} (h : SS w v Ls) : v = .slice (slPtr v) Ls.length (slCap v) := by
  rcases h with ⟨a, c, rfl, rfl⟩ | ⟨b, off, cap, u, rfl, _, _⟩ <;> rfl

/-- Its lists' cells and what they read as, where there is one. -/
def Rows (w : World) (b off : Nat) (Ls : List (List Int)) : Prop := ∀ i, i < Ls.length → ∃ p c, w.cell? ⟨b, off + i, none⟩ = some (.slice p (elS Ls i).length c) ∧ Sl w (.slice p (elS Ls i).length c) (elS Ls i)

theorem SS.rows {w : World} {v : Value} {Ls : List (List Int)} (h : SS w v Ls) (h0 : 0 < Ls.length) : ∃ b off cap, v = .slice (some ⟨b, off, none⟩) Ls.length cap ∧ b < w.heap.size ∧ Rows w b off Ls := by
  rcases h with ⟨a, c, rfl, rfl⟩ | ⟨b, off, cap, u, rfl, hb, hc⟩
  · simp at h0
  · refine ⟨b, off, cap, rfl, hb, fun i hi => ?_⟩
    obtain ⟨h1, h2⟩ := hc i hi
    have hf := slForm h2
    exact ⟨slPtr (u i), slCap (u i), by rw [← hf]; exact h1, by rw [← hf]; exact h2⟩

theorem Rows.below {w w' : World} {b off : Nat} {Ls : List (List Int)} (h : Rows w b off Ls) (hl : b < w.heap.size) (hb : Below w.heap.size w w') : Rows w' b off Ls := fun i hi => by
  obtain ⟨p, c, h1, h2⟩ := h i hi
  exact ⟨p, c, (hb.cell (p := ⟨b, off + i, none⟩) hl).trans h1, h2.below hb⟩


theorem eqInts_eq (v1 v2 : Value) (xs : List Int) (w : World) (h1 : Sl w v1 xs) (h2 : Sl w v2 xs) (hx : xs.length ≤ 9223372036854775807) :
    Calls Tryd.prog 31 #[v1, v2] w fun e w' => e = .returned (.bool true) ∧ Below w.heap.size w w' := by
  have := eqInts_any v1 v2 xs xs w h1 h2 hx
  simpa using this

/-- Of what was there, nothing but blocks from lo up to below hi has turned. -/
def Rng (w w' : World) (lo hi : Nat) : Prop := w'.os = w.os ∧ w'.tape = w.tape ∧ w'.output = w.output ∧ w.heap.size ≤ w'.heap.size ∧ ∀ k, k < w.heap.size → (k < lo ∨ hi ≤ k) → w'.heap[k]? = w.heap[k]?

theorem Rng.refl (w : World) (lo hi : Nat) : Rng w w lo hi := ⟨rfl, rfl, rfl, Nat.le_refl _, fun _ _ _ => rfl⟩

theorem Rng.grown {w w1 w2 : World} {lo hi g : Nat} (h : Rng w w1 lo hi) (hg : w1.grownBy w2 (some g)) (h1 : lo ≤ g) (h2 : g < hi) : Rng w w2 lo hi :=
  ⟨hg.os.trans h.1, hg.tape.trans h.2.1, hg.output.trans h.2.2.1, Nat.le_trans h.2.2.2.1 hg.size, fun k hk ho => (hg.block k (Nat.lt_of_lt_of_le hk h.2.2.2.1) (by simp; omega)).trans (h.2.2.2.2 k hk ho)⟩

theorem Rng.block {w w' : World} {lo hi k : Nat} {x : Obj} (h : Rng w w' lo hi) (hx : w.heap[k]? = some x) (ho : k < lo ∨ hi ≤ k) : w'.heap[k]? = some x := (h.2.2.2.2 k (Array.getElem?_eq_some_iff.1 hx).1 ho).trans hx

theorem Below.rng {B lo hi : Nat} {w w1 w2 : World} (h : Below B w w1) (hr : Rng w1 w2 lo hi) (hB : B ≤ lo) (hs : B ≤ w1.heap.size) : Below B w w2 :=
  ⟨hr.1.trans h.os, hr.2.1.trans h.tape, hr.2.2.1.trans h.output, Nat.le_trans h.size hr.2.2.2.1, fun k hk => (hr.2.2.2.2 k (by omega) (.inl (by omega))).trans (h.block k hk)⟩

theorem Own.rng {w w' : World} {B lo hi : Nat} {u : Value} {L : List Int} (h : Own w B u L) (hr : Rng w w' lo hi) (ho : ∀ k, u.ownBlock = some k → k < lo ∨ hi ≤ k) : Own w' B u L := by
  refine ⟨h.1, h.2.imp id fun ⟨g, cap, cur, e, hB, hg, r⟩ => ⟨g, cap, cur, e, hB, hr.block hg (ho g (by rw [e]; rfl)), r⟩⟩

theorem TS.rows {w : World} {B g cap : Nat} {Ts : List (List Int)} (h : TS w B (.slice (some ⟨g, 0, none⟩) Ts.length cap) Ts) : Rows w g 0 Ts := fun i hi => by
  obtain ⟨u, a, b, _⟩ := h.at hi
  have hf := slForm b.sl
  exact ⟨slPtr u, slCap u, by rw [Nat.zero_add, ← hf]; exact a, by rw [← hf]; exact b.sl⟩


/-- The slice v owns, from block B on, the lists of Ls: each list in a row of its own. -/
def LO (w : World) (B : Nat) (v : Value) (Ls : List (List Int)) : Prop :=
  (v = .slice none 0 0 ∧ Ls = []) ∨ ∃ (g cap : Nat) (us : Nat → Value), v = .slice (some ⟨g, 0, none⟩) Ls.length cap ∧ B ≤ g ∧ g < w.heap.size ∧
    (∀ i, i < Ls.length → w.cell? ⟨g, i, none⟩ = some (us i) ∧ Own w B (us i) (elS Ls i) ∧ (us i).ownBlock ≠ some g) ∧
    ∀ i j b, i ≠ j → i < Ls.length → j < Ls.length → (us i).ownBlock = some b → (us j).ownBlock ≠ some b

theorem LO.ss {w : World} {B : Nat} {v : Value} {Ls : List (List Int)} (h : LO w B v Ls) : SS w v Ls := by
  rcases h with ⟨rfl, rfl⟩ | ⟨g, cap, us, rfl, _, hg, hc, _⟩
  · exact .inl ⟨_, _, rfl, rfl⟩
  · exact .inr ⟨g, 0, cap, us, rfl, hg, fun i hi => ⟨by rw [Nat.zero_add]; exact (hc i hi).1, (hc i hi).2.1.sl⟩⟩

theorem LO.below {w w' : World} {B : Nat} {v : Value} {Ls : List (List Int)} (h : LO w B v Ls) (hb : Below w.heap.size w w') : LO w' B v Ls := by
  rcases h with h | ⟨g, cap, us, rfl, hB, hg, hc, hd⟩
  · exact .inl h
  · exact .inr ⟨g, cap, us, rfl, hB, Nat.lt_of_lt_of_le hg hb.size, fun i hi => ⟨(hb.cell (p := ⟨g, i, none⟩) hg).trans (hc i hi).1, (hc i hi).2.1.below hb, (hc i hi).2.2⟩, hd⟩

theorem TS.ss {w : World} {B : Nat} {v : Value} {Ts : List (List Int)} (h : TS w B v Ts) : SS w v Ts := by
  rcases h.form with ⟨rfl, rfl⟩ | ⟨g, cap, rfl, _, hg⟩
  · exact .inl ⟨_, _, rfl, rfl⟩
  · obtain ⟨cs, h1, h2, h3⟩ := h
    refine .inr ⟨g, 0, cap, fun i => cs.getD i (.bool false), rfl, hg, fun i hi => ?_⟩
    obtain ⟨u, a, b, _⟩ := h3 i hi
    have e : cs.getD i (.bool false) = u := by rw [List.getD_eq_getElem?_getD, a]; rfl
    show w.cell? ⟨g, 0 + i, none⟩ = some (cs.getD i (.bool false)) ∧ Sl w (cs.getD i (.bool false)) (elS Ts i)
    rw [e, Nat.zero_add]
    exact ⟨(World.ownsRow.cellAt h1 i (by omega)).trans a, b.sl⟩

/-- The marks that a list of lists gets. -/
def markLL (k : Int) (Ls : List (List Int)) : List (List Int) := (List.range Ls.length).map fun i => markL (k + (tot Ls i : Int)) (elS Ls i).length

theorem markLL_length (k : Int) (Ls : List (List Int)) : (markLL k Ls).length = Ls.length := by simp [markLL]

theorem markLL_at (k : Int) (Ls : List (List Int)) (i : Nat) (h : i < Ls.length) : elS (markLL k Ls) i = markL (k + (tot Ls i : Int)) (elS Ls i).length := by simp [elS, markLL, h]

/-- What a call that writes marks into v's lists leaves. -/
def MarkedLL (w w' : World) (B : Nat) (v : Value) (k : Int) (Ls : List (List Int)) : Prop := SS w' v (markLL k Ls) ∧ Below B w w' ∧ w'.heap.size = w.heap.size

theorem TL.lo {w : World} {B : Nat} {v : Value} {Ts : List (List Int)} (h : TL w B v Ts) : LO w B v Ts := by
  obtain ⟨cs, hc, hd⟩ := h
  rcases hc.form with ⟨rfl, rfl⟩ | ⟨g, cap, rfl, hB, hg⟩
  · exact .inl ⟨rfl, rfl⟩
  · obtain ⟨h1, h2, h3⟩ := hc
    have hgd : ∀ i, i < Ts.length → cs[i]? = some (cs.getD i (.slice none 0 0)) := fun i hi => by
      rw [List.getD_eq_getElem?_getD, List.getElem?_eq_getElem (by omega)]; rfl
    refine .inr ⟨g, cap, fun i => cs.getD i (.slice none 0 0), rfl, hB, hg, fun i hi => ?_, fun i j b hij hi hj hb => hd i j _ _ b hij (hgd i hi) (hgd j hj) hb⟩
    obtain ⟨u, a, b, c, _⟩ := h3 i hi
    have e : cs.getD i (.slice none 0 0) = u := by have := hgd i hi; rw [a] at this; exact (Option.some.inj this).symm
    show w.cell? ⟨g, i, none⟩ = some (cs.getD i (.slice none 0 0)) ∧ Own w B (cs.getD i (.slice none 0 0)) _ ∧ (cs.getD i (.slice none 0 0)).ownBlock ≠ some g
    rw [e]
    refine ⟨(World.ownsRow.cellAt h1 i (by omega)).trans a, b, fun e2 => ?_⟩
    rcases c with c | c
    · rw [c] at e2; cases e2
    · exact c (by rw [e2]; rfl)

theorem tot_le (Ls : List (List Int)) (m : Nat) : ∀ k, (∀ i, i < k → (elS Ls i).length ≤ m) → tot Ls k ≤ m * k
  | 0, _ => Nat.le_refl _
  | k + 1, h => by
    have h1 := tot_le Ls m k (fun i hi => h i (by omega))
    have h2 := h k (by omega)
    show tot Ls k + (elS Ls k).length ≤ m * (k + 1)
    rw [Nat.mul_add]; omega
theorem ss_slice {w : World} {v : Value} {Ls : List (List Int)} (h : SS w v Ls) : ∃ a c, v = .slice a Ls.length c := ⟨_, _, h.form⟩
end Go.Proofs.YtabkfihhfkmioaaDoor
