/-
  impl.linkSteps: the nodes of a walk, or a panic.
-/
import Derived.Test.YthonkphjahomeaaDoorWk0
import Derived.Recover
import Derived.Defers
import Derived.Laws.Pointers
import Derived.WalkLawsBesides
import Derived.BigQuiet
import Derived.Deep.QuietTactic
import Derived.Deep.RegionHeld3
namespace Go.Proofs.YthonkphjahomeaaDoor
set_option maxRecDepth 100000
open Go.RowKit

set_option maxHeartbeats 800000 in
theorem leads_any (s a0 a1 a2 t c0 c1 c2 : Int) (w : World) :
    Calls Tryd.prog 39 #[.agg #[.int .i64 s, .int .i64 a0, .int .i64 a1, .int .i64 a2], .agg #[.int .i64 t, .int .i64 c0, .int .i64 c1, .int .i64 c2]] w fun e w' => e = .returned (.bool (decide (a1 = c0))) ∧ Below w.heap.size w w' := by
  have D0 : Below w.heap.size w ((w.alloc (.cells #[.int .i64 s, .int .i64 a0, .int .i64 a1, .int .i64 a2] 52)).alloc (.cells #[.int .i64 t, .int .i64 c0, .int .i64 c1, .int .i64 c2] 52)) := ((Below.refl _ _).alloc (Nat.le_refl _) _).alloc (by simp) _
  have HD := Lib.hid D0
  clear D0
  go_enter Tryd.func39, Tryd.ntmps39
  go_wp2
  go_ret
  exact ⟨ret_bool (by by_cases h : a1 = c0 <;> simp [h]), HD.out⟩

/-- The nodes of the steps from number i on, d of them, in blocks from B on. -/
def Ch (w : World) (B m : Nat) (fs zs : List Int) (i d : Nat) (v : Value) : Prop := match d with
  | 0 => v = .pointer none
  | d + 1 => ∃ g q, v = .pointer (some ⟨g, 0, none⟩) ∧ B ≤ g ∧ w.heap[g]? = some (.cells #[.int .i64 (sp zs i), .int .i64 (stA m fs (sp zs i) 0), .int .i64 (stA m fs (sp zs i) 1), .int .i64 (stA m fs (sp zs i) 2), q] 54 (0, 0)) ∧ Ch w (g + 1) m fs zs (i + 1) d q
theorem Ch.kept {w w' : World} {B B' m : Nat} {fs zs : List Int} (hB : B' ≤ B) (hk : ∀ g, B ≤ g → g < w.heap.size → w'.heap[g]? = w.heap[g]?) {i d : Nat} {v : Value} (h : Ch w B m fs zs i d v) : Ch w' B' m fs zs i d v := by
  induction d generalizing B B' i v with
  | zero => exact h
  | succ d ih =>
    obtain ⟨g, q, e, hg, hc, hr⟩ := h
    exact ⟨g, q, e, by omega, (hk g hg (Array.getElem?_eq_some_iff.1 hc).1).trans hc, ih (Nat.le_refl _) (fun g' h h' => hk g' (by omega) h') hr⟩
theorem Ch.below {w w' : World} {B m : Nat} {fs zs : List Int} (hb : Below w.heap.size w w') {i d : Nat} {v : Value} (h : Ch w B m fs zs i d v) : Ch w' B m fs zs i d v :=
  h.kept (Nat.le_refl _) (fun g _ hl => hb.block g hl)
theorem five_cells {w : World} {k : Nat} {x y z u q : Value} {t : TypeId} (h : w.heap[k]? = some (.cells #[x, y, z, u, q] t (0, 0))) : (w.cell? ⟨k, 0, none⟩ = some x ∧ w.cell? ⟨k, 1, none⟩ = some y ∧ w.cell? ⟨k, 2, none⟩ = some z ∧ w.cell? ⟨k, 3, none⟩ = some u ∧ w.cell? ⟨k, 4, none⟩ = some q) ∧ w.frozen? ⟨k, 4, none⟩ = false :=
  ⟨⟨by rw [cell_of_row w k 0 _ _ _ h]; rfl, by rw [cell_of_row w k 1 _ _ _ h]; rfl, by rw [cell_of_row w k 2 _ _ _ h]; rfl, by rw [cell_of_row w k 3 _ _ _ h]; rfl, by rw [cell_of_row w k 4 _ _ _ h]; rfl⟩, frozen_of_row w k 4 _ _ h⟩
theorem five_set {w : World} {k : Nat} {x y z u q q' : Value} {t : TypeId} (h : w.heap[k]? = some (.cells #[x, y, z, u, q] t (0, 0))) : (w.setCell ⟨k, 4, none⟩ q').heap[k]? = some (.cells #[x, y, z, u, q'] t (0, 0)) := by
  rw [heap_setCell_same w k 4 _ _ q' h]; rfl

/-- What comes in: the slice of the numbers from number i on, d of them. -/
def Nb (w : World) (b off i d : Nat) (zs : List Int) (p : Option Addr) : Prop := d = 0 ∨ (p = some ⟨b, off + i, none⟩ ∧ b < w.heap.size ∧ Cells w b off zs)
theorem Nb.below {w w' : World} {b off i d : Nat} {zs : List Int} {p : Option Addr} (h : Nb w b off i d zs p) (hb : Below w.heap.size w w') : Nb w' b off i d zs p := by
  rcases h with h | ⟨h1, h2, h3⟩
  · exact .inl h
  · exact .inr ⟨h1, Nat.lt_of_lt_of_le h2 hb.size, h3.below hb h2⟩

set_option maxHeartbeats 1600000 in
theorem link_nil (S p : Option Addr) (n c cap : Nat) (w : World) :
    Calls Tryd.prog 36 #[.slice S n c, .slice p 0 cap] w fun e w' => e = .returned (.pointer none) ∧ w' = w := by
  go_enter Tryd.func36, Tryd.ntmps36
  go_wp2
  go_ret
  exact ⟨rfl, rfl⟩

set_option maxHeartbeats 1600000 in
theorem link_yes (m K B G b off : Nat) (fs zs : List Int) (hz : zs.length ≤ 14) (hnb : ∀ i, i < zs.length → el zs i = (sp zs i : Nat) ∧ sp zs i < K) : ∀ (d i cap : Nat) (p : Option Addr) (w : World), i + d = zs.length → d ≤ cap → Nb w b off i d zs p → w.ownsRow B 52 4 (.slice (some ⟨G, 0, none⟩) K K) K (stL m fs K) → (∀ j, i ≤ j → j + 1 < zs.length → fitB m fs zs j = true) →
    Calls Tryd.prog 36 #[.slice (some ⟨G, 0, none⟩) K K, .slice p d cap] w fun e w' => (∃ v, e = .returned v ∧ Ch w' w.heap.size m fs zs i d v) ∧ Below w.heap.size w w' := by
  intro d
  induction d with
  | zero => exact fun i cap p w _ _ _ _ _ => (link_nil _ p K K cap w).mono fun e w' ⟨he, hw⟩ => ⟨⟨_, he, rfl⟩, hw ▸ Below.refl _ _⟩
  | succ d ihd =>
    intro i cap p w hid hcap hp hO hfit
    obtain ⟨rfl, hb, hc⟩ : p = some ⟨b, off + i, none⟩ ∧ b < w.heap.size ∧ Cells w b off zs := hp.resolve_left (by omega)
    have hi : i < zs.length := by omega
    obtain ⟨e1, e2⟩ := hnb i hi
    have z0 := hc i hi
    rw [e1] at z0
    obtain ⟨y0, y1, y2, y3⟩ := step_cells hO (Below.refl _ _) e2
    obtain ⟨s, hs⟩ : ∃ s, s = sp zs i := ⟨_, rfl⟩
    rw [← hs] at z0 y0 y1 y2 y3 e2
    obtain ⟨a0, ha0⟩ : ∃ a, a = stA m fs s 0 := ⟨_, rfl⟩
    obtain ⟨a1, ha1⟩ : ∃ a, a = stA m fs s 1 := ⟨_, rfl⟩
    obtain ⟨a2, ha2⟩ : ∃ a, a = stA m fs s 2 := ⟨_, rfl⟩
    rw [← ha0] at y1
    rw [← ha1] at y2
    rw [← ha2] at y3
    have e3 : ((s : Nat) : Int) < K := by omega
    have e4 : (0 : Int) ≤ s := by omega
    have HE : Hid (s = sp zs i ∧ a0 = stA m fs s 0 ∧ a1 = stA m fs s 1 ∧ a2 = stA m fs s 2) := ⟨hs, ha0, ha1, ha2⟩
    obtain ⟨w1, h1⟩ : ∃ w1, w1 = w.alloc (.cells #[.int .i64 s, .int .i64 a0, .int .i64 a1, .int .i64 a2, .pointer none] 54) := ⟨_, rfl⟩
    have X1 : Hid (w1.heap[w.heap.size]? = some (.cells #[.int .i64 s, .int .i64 a0, .int .i64 a1, .int .i64 a2, .pointer none] 54 (0, 0))) := by rw [h1]; exact World.alloc_heap_new w _
    have B1 : Below w.heap.size w w1 := by rw [h1]; exact (Below.refl _ _).alloc (Nat.le_refl _) _
    have l1 : w.heap.size + 1 ≤ w1.heap.size := by rw [h1]; simp
    have HB1 := Lib.hid B1; have HH := Lib.hid h1
    rcases Nat.eq_zero_or_pos d with rfl | hd
    · have hnil : Hid (∀ (q : Option Addr) (c : Nat) (W : World), Calls Tryd.prog 36 #[.slice (some ⟨G, 0, none⟩) K K, .slice q 0 c] W fun e w' => e = .returned (.pointer none) ∧ w' = W) := fun q c W => link_nil _ q K K c W
      clear e1 hs ha0 ha1 ha2 hc hO hfit B1 h1 ihd hp
      go_enter Tryd.func36, Tryd.ntmps36
      go_upto_region 4 with fail
      rw [← HH.out]
      clear HH z0 y0 y1 y2 y3
      obtain ⟨⟨x0, x1, x2, x3, x4⟩, x5⟩ := five_cells X1.out
      have X3 : Hid ((w1.setCell ⟨w.heap.size, 4, none⟩ (.pointer none)).heap[w.heap.size]? = some (.cells #[.int .i64 s, .int .i64 a0, .int .i64 a1, .int .i64 a2, .pointer none] 54 (0, 0))) := five_set X1.out
      have E3 : Below w.heap.size w (w1.setCell ⟨w.heap.size, 4, none⟩ (.pointer none)) := HB1.out.setCell (p := ⟨w.heap.size, 4, none⟩) (Nat.le_refl _) _
      have HE3 := Lib.hid E3
      clear E3
      obtain ⟨⟨v0, v1, v2, v3, v4⟩, -⟩ := five_cells X3.out
      go_wp2_with (go_at_call 36; refine (hnil.out _ _ _).mono ?_; rintro e w2 ⟨rfl, rfl⟩)
      all_goals
        go_quiet (fail)
        go_wp2_with fail
        go_ret
        obtain ⟨rfl, rfl, rfl, rfl⟩ := HE.out
        exact ⟨⟨_, rfl, w.heap.size, _, rfl, Nat.le_refl _, X3.out, rfl⟩, drewN_below HE3.out _⟩
    · obtain ⟨f, rfl⟩ : ∃ f, d = f + 1 := ⟨d - 1, by omega⟩
      have hne : ¬ ((f : Int) + 1 + 1 = 0) := by omega
      have hc1 : ¬ cap = 1 := by omega
      have ih := ihd (i + 1) (cap - 1) (some ⟨b, off + i + 1, none⟩) w1 (by omega) (by omega) (.inr ⟨rfl, Nat.lt_of_lt_of_le hb B1.size, hc.below B1 hb⟩) (ownsT_below hO B1) (fun j h1 h2 => hfit j (by omega) h2)
      have HI := Lib.hid ih
      have hft := fitB_yes.1 (hfit i (Nat.le_refl _) (by omega))
      rw [← hs, ← ha1] at hft
      have HFT := Lib.hid hft
      obtain ⟨t, ht⟩ : ∃ t, t = sp zs (i + 1) := ⟨_, rfl⟩
      have HT := Lib.hid ht
      have HCH : Hid (∀ W v, Ch W w1.heap.size m fs zs (i + 1) (f + 1) v → ∃ g q, v = .pointer (some ⟨g, 0, none⟩) ∧ w1.heap.size ≤ g ∧ W.heap[g]? = some (.cells #[.int .i64 t, .int .i64 a1, .int .i64 (stA m fs t 1), .int .i64 (stA m fs t 2), q] 54 (0, 0)) ∧ Ch W (g + 1) m fs zs (i + 2) f q) := fun W v h => by
        obtain ⟨g, q, e, h1, h2, h3⟩ := h
        rw [← ht, ← show a1 = stA m fs t 0 by rw [hft, ht]] at h2
        exact ⟨g, q, e, h1, h2, h3⟩
      clear e1 hs ha0 ha1 ha2 hc hO hfit B1 h1 ihd hp ih hft ht
      go_enter Tryd.func36, Tryd.ntmps36
      go_upto_region 4 with fail
      rw [← HH.out]
      clear HH z0 y0 y1 y2 y3
      go_wp2_with (go_at_call 36; refine HI.out.mono ?_; rintro e w2 ⟨⟨v, rfl, hch⟩, hb2⟩; obtain ⟨g, q, rfl, hg, hgc, hgr⟩ := HCH.out w2 v hch; have X2 : Hid (w2.heap[w.heap.size]? = some (.cells #[.int .i64 s, .int .i64 a0, .int .i64 a1, .int .i64 a2, .pointer none] 54 (0, 0))) := (hb2.block _ (by omega)).trans X1.out; have HG := Lib.hid hgc; have HR := Lib.hid hgr; have B2 := Lib.hid (HB1.out.trans (hb2.mono (by omega))); obtain ⟨⟨x0, x1, x2, x3, x4⟩, x5⟩ := five_cells X2.out; clear hch hgc hgr hb2)
      obtain ⟨w3, h3⟩ : ∃ w3, w3 = w2.setCell ⟨w.heap.size, 4, none⟩ (.pointer (some ⟨g, 0, none⟩)) := ⟨_, rfl⟩
      have X3 : Hid (w3.heap[w.heap.size]? = some (.cells #[.int .i64 s, .int .i64 a0, .int .i64 a1, .int .i64 a2, .pointer (some ⟨g, 0, none⟩)] 54 (0, 0))) := by show _ = _; rw [h3]; exact five_set X2.out
      have E3 : Below w.heap.size w w3 := by rw [h3]; exact B2.out.setCell (p := ⟨w.heap.size, 4, none⟩) (Nat.le_refl _) _
      have hk3 : ∀ k, w1.heap.size ≤ k → k < w2.heap.size → w3.heap[k]? = w2.heap[k]? := fun k h _ => by rw [h3]; exact Below.heap_setCell w2 _ _ k (by simp; omega)
      have G3 : Hid (w3.heap[g]? = some (.cells #[.int .i64 t, .int .i64 a1, .int .i64 (stA m fs t 1), .int .i64 (stA m fs t 2), q] 54 (0, 0))) := (hk3 g hg (Array.getElem?_eq_some_iff.1 HG.out).1).trans HG.out
      have R3 : Hid (Ch w3 (g + 1) m fs zs (i + 2) f q) := HR.out.kept (Nat.le_refl _) (fun k h h' => hk3 k (by omega) h')
      have HE3 := Lib.hid E3
      have hS : ∀ W, Below w3.heap.size w3 W → (W.cell? ⟨w.heap.size, 0, none⟩ = some (.int .i64 s) ∧ W.cell? ⟨w.heap.size, 1, none⟩ = some (.int .i64 a0) ∧ W.cell? ⟨w.heap.size, 2, none⟩ = some (.int .i64 a1) ∧ W.cell? ⟨w.heap.size, 3, none⟩ = some (.int .i64 a2) ∧ W.cell? ⟨w.heap.size, 4, none⟩ = some (.pointer (some ⟨g, 0, none⟩))) ∧ (W.cell? ⟨g, 0, none⟩ = some (.int .i64 t) ∧ W.cell? ⟨g, 1, none⟩ = some (.int .i64 a1) ∧ W.cell? ⟨g, 2, none⟩ = some (.int .i64 (stA m fs t 1)) ∧ W.cell? ⟨g, 3, none⟩ = some (.int .i64 (stA m fs t 2))) := fun W hW =>
        ⟨(five_cells ((hW.block _ (Array.getElem?_eq_some_iff.1 X3.out).1).trans X3.out)).1, by obtain ⟨⟨a, b, c, d, -⟩, -⟩ := five_cells ((hW.block _ (Array.getElem?_eq_some_iff.1 G3.out).1).trans G3.out); exact ⟨a, b, c, d⟩⟩
      have HS := Lib.hid hS
      have hfin : ∀ W, Below w3.heap.size w3 W → Ch W w.heap.size m fs zs i (f + 2) (.pointer (some ⟨w.heap.size, 0, none⟩)) := fun W hW => by
        obtain ⟨hs0, hs1, hs2, hs3⟩ := HE.out
        refine ⟨w.heap.size, _, rfl, Nat.le_refl _, ?_, g, q, rfl, by omega, ?_, R3.out.below hW⟩
        · rw [← hs0, ← hs1, ← hs2, ← hs3]; exact (hW.block _ (Array.getElem?_eq_some_iff.1 X3.out).1).trans X3.out
        · rw [← HT.out, ← show a1 = stA m fs t 0 by rw [HFT.out, HT.out]]; exact (hW.block _ (Array.getElem?_eq_some_iff.1 G3.out).1).trans G3.out
      have HFIN := Lib.hid hfin
      rw [← h3]
      clear h3 hk3 E3 x0 x1 x2 x3 x4 x5 X2 HG HR B2 hS hfin
      obtain ⟨⟨x0, x1, x2, x3, x4⟩, v0, v1, v2, v3⟩ := HS.out w3 (Below.refl _ _)
      go_region_held3 (fun W => (W.cell? ⟨w.heap.size, 0, none⟩ = some (.int .i64 s) ∧ W.cell? ⟨w.heap.size, 1, none⟩ = some (.int .i64 a0) ∧ W.cell? ⟨w.heap.size, 2, none⟩ = some (.int .i64 a1) ∧ W.cell? ⟨w.heap.size, 3, none⟩ = some (.int .i64 a2) ∧ W.cell? ⟨w.heap.size, 4, none⟩ = some (.pointer (some ⟨g, 0, none⟩))) ∧ (W.cell? ⟨g, 0, none⟩ = some (.int .i64 t) ∧ W.cell? ⟨g, 1, none⟩ = some (.int .i64 a1) ∧ W.cell? ⟨g, 2, none⟩ = some (.int .i64 (stA m fs t 1)) ∧ W.cell? ⟨g, 3, none⟩ = some (.int .i64 (stA m fs t 2))))
        (go_keep)
        (first | (go_at_call 39; refine (leads_any _ _ _ _ _ _ _ _ _).mono ?_; rintro e w4 ⟨rfl, hb4⟩; have hb4' : Below w3.heap.size w3 w4 := below_drew hb4 (by simp); obtain ⟨⟨x0, x1, x2, x3, x4⟩, v0, v1, v2, v3⟩ := HS.out w4 hb4'))
      have F4 := HFIN.out w4 hb4'
      have E4 := HE3.out.trans (hb4'.mono (Nat.le_of_lt (Array.getElem?_eq_some_iff.1 X3.out).1))
      have HF4 := Lib.hid F4; have HE4 := Lib.hid E4
      clear F4 E4 hb4 hb4' x0 x1 x2 x3 x4 v0 v1 v2 v3
      go_wp2_with fail
      go_ret
      exact ⟨⟨_, rfl, HF4.out⟩, HE4.out⟩

/-- What the door panics with. -/
def Pnc (a : Addr) (e : Ending) : Prop := e = .panicked [{ v := .iface 74 (.pointer (some a)), recovered := false }]

set_option maxHeartbeats 1600000 in
theorem link_no (a : Addr) (m K B G b off : Nat) (fs zs : List Int) (hz : zs.length ≤ 14) (hnb : ∀ i, i < zs.length → el zs i = (sp zs i : Nat) ∧ sp zs i < K) : ∀ (d i cap : Nat) (p : Option Addr) (w : World), i + d = zs.length → d ≤ cap → Nb w b off i d zs p → w.ownsRow B 52 4 (.slice (some ⟨G, 0, none⟩) K K) K (stL m fs K) → (∃ j, i ≤ j ∧ j + 1 < zs.length ∧ fitB m fs zs j = false) → w.cell? ⟨0, 0, none⟩ = some (.iface 74 (.pointer (some a))) →
    Calls Tryd.prog 36 #[.slice (some ⟨G, 0, none⟩) K K, .slice p d cap] w fun e w' => Pnc a e ∧ Below w.heap.size w w' := by
  intro d
  induction d with
  | zero => exact fun i cap p w h _ _ _ ⟨j, h1, h2, _⟩ _ => absurd h2 (by omega)
  | succ d ihd =>
    intro i cap p w hid hcap hp hO hfit hE
    obtain ⟨rfl, hb, hc⟩ : p = some ⟨b, off + i, none⟩ ∧ b < w.heap.size ∧ Cells w b off zs := hp.resolve_left (by omega)
    have hi : i < zs.length := by omega
    obtain ⟨e1, e2⟩ := hnb i hi
    have z0 := hc i hi
    rw [e1] at z0
    obtain ⟨y0, y1, y2, y3⟩ := step_cells hO (Below.refl _ _) e2
    obtain ⟨s, hs⟩ : ∃ s, s = sp zs i := ⟨_, rfl⟩
    rw [← hs] at z0 y0 y1 y2 y3 e2
    obtain ⟨a0, ha0⟩ : ∃ a, a = stA m fs s 0 := ⟨_, rfl⟩
    obtain ⟨a1, ha1⟩ : ∃ a, a = stA m fs s 1 := ⟨_, rfl⟩
    obtain ⟨a2, ha2⟩ : ∃ a, a = stA m fs s 2 := ⟨_, rfl⟩
    rw [← ha0] at y1
    rw [← ha1] at y2
    rw [← ha2] at y3
    have e3 : ((s : Nat) : Int) < K := by omega
    have e4 : (0 : Int) ≤ s := by omega
    have HE : Hid (s = sp zs i ∧ a0 = stA m fs s 0 ∧ a1 = stA m fs s 1 ∧ a2 = stA m fs s 2) := ⟨hs, ha0, ha1, ha2⟩
    obtain ⟨w1, h1⟩ : ∃ w1, w1 = w.alloc (.cells #[.int .i64 s, .int .i64 a0, .int .i64 a1, .int .i64 a2, .pointer none] 54) := ⟨_, rfl⟩
    have X1 : Hid (w1.heap[w.heap.size]? = some (.cells #[.int .i64 s, .int .i64 a0, .int .i64 a1, .int .i64 a2, .pointer none] 54 (0, 0))) := by rw [h1]; exact World.alloc_heap_new w _
    have B1 : Below w.heap.size w w1 := by rw [h1]; exact (Below.refl _ _).alloc (Nat.le_refl _) _
    have l1 : w.heap.size + 1 ≤ w1.heap.size := by rw [h1]; simp
    have HB1 := Lib.hid B1; have HH := Lib.hid h1
    have hEl := World.block_lt_of_cell? w _ hE
    have HEV : Hid (∀ W, Below w.heap.size w W → W.cell? ⟨0, 0, none⟩ = some (.iface 74 (.pointer (some a)))) := fun W h => (h.cell (p := ⟨0, 0, none⟩) hEl).trans hE
    obtain ⟨f, rfl⟩ : ∃ f, d = f + 1 := ⟨d - 1, by obtain ⟨j, h1, h2, -⟩ := hfit; omega⟩
    have hne : ¬ ((f : Int) + 1 + 1 = 0) := by omega
    have hc1 : ¬ cap = 1 := by omega
    by_cases hrec : ∃ j, i + 1 ≤ j ∧ j + 1 < zs.length ∧ fitB m fs zs j = false
    · have ih := ihd (i + 1) (cap - 1) (some ⟨b, off + i + 1, none⟩) w1 (by omega) (by omega) (.inr ⟨rfl, Nat.lt_of_lt_of_le hb B1.size, hc.below B1 hb⟩) (ownsT_below hO B1) hrec (HEV.out w1 B1)
      have HI := Lib.hid ih
      clear e1 hs ha0 ha1 ha2 hc hO hfit B1 h1 ihd hp ih hrec hE
      go_enter Tryd.func36, Tryd.ntmps36
      go_upto_region 4 with fail
      rw [← HH.out]
      clear HH z0 y0 y1 y2 y3
      go_wp2_with (go_at_call 36; refine HI.out.mono ?_; rintro e w2 ⟨rfl, hb2⟩)
      exact ⟨rfl, rfl, HB1.out.trans (hb2.mono (by omega))⟩
    · have hft0 : fitB m fs zs i = false := by
        obtain ⟨j, h1, h2, h3⟩ := hfit
        by_cases e : j = i
        · rw [← e]; exact h3
        · exact absurd ⟨j, by omega, h2, h3⟩ hrec
      have ih := link_yes m K B G b off fs zs hz hnb (f + 1) (i + 1) (cap - 1) (some ⟨b, off + i + 1, none⟩) w1 (by omega) (by omega) (.inr ⟨rfl, Nat.lt_of_lt_of_le hb B1.size, hc.below B1 hb⟩) (ownsT_below hO B1) (fun j h1 h2 => by
        cases hj : fitB m fs zs j with
        | true => rfl
        | false => exact absurd ⟨j, h1, h2, hj⟩ hrec)
      have HI := Lib.hid ih
      have hft := fitB_no.1 hft0
      rw [← hs, ← ha1] at hft
      obtain ⟨t, ht⟩ : ∃ t, t = sp zs (i + 1) := ⟨_, rfl⟩
      obtain ⟨c0, hc0⟩ : ∃ c, c = stA m fs t 0 := ⟨_, rfl⟩
      have hac : ¬ (a1 : Int) = (c0 : Int) := by rw [hc0, ht]; omega
      have hd1 : decide ((a1 : Int) = (c0 : Int)) = false := by simpa using hac
      have HCH : Hid (∀ W v, Ch W w1.heap.size m fs zs (i + 1) (f + 1) v → ∃ g q, v = .pointer (some ⟨g, 0, none⟩) ∧ w1.heap.size ≤ g ∧ W.heap[g]? = some (.cells #[.int .i64 t, .int .i64 c0, .int .i64 (stA m fs t 1), .int .i64 (stA m fs t 2), q] 54 (0, 0)) ∧ Ch W (g + 1) m fs zs (i + 2) f q) := fun W v h => by
        obtain ⟨g, q, e, h1, h2, h3⟩ := h
        rw [← ht, ← hc0] at h2
        exact ⟨g, q, e, h1, h2, h3⟩
      clear e1 hs ha0 ha1 ha2 hc hO hfit B1 h1 ihd hp ih hft ht hft0 hrec hE hc0 hac
      go_enter Tryd.func36, Tryd.ntmps36
      go_upto_region 4 with fail
      rw [← HH.out]
      clear HH z0 y0 y1 y2 y3
      go_wp2_with (go_at_call 36; refine HI.out.mono ?_; rintro e w2 ⟨⟨v, rfl, hch⟩, hb2⟩; obtain ⟨g, q, rfl, hg, hgc, hgr⟩ := HCH.out w2 v hch; have X2 : Hid (w2.heap[w.heap.size]? = some (.cells #[.int .i64 s, .int .i64 a0, .int .i64 a1, .int .i64 a2, .pointer none] 54 (0, 0))) := (hb2.block _ (by omega)).trans X1.out; have HG := Lib.hid hgc; have HR := Lib.hid hgr; have B2 := Lib.hid (HB1.out.trans (hb2.mono (by omega))); obtain ⟨⟨x0, x1, x2, x3, x4⟩, x5⟩ := five_cells X2.out; clear hch hgc hgr hb2)
      obtain ⟨w3, h3⟩ : ∃ w3, w3 = w2.setCell ⟨w.heap.size, 4, none⟩ (.pointer (some ⟨g, 0, none⟩)) := ⟨_, rfl⟩
      have X3 : Hid (w3.heap[w.heap.size]? = some (.cells #[.int .i64 s, .int .i64 a0, .int .i64 a1, .int .i64 a2, .pointer (some ⟨g, 0, none⟩)] 54 (0, 0))) := by show _ = _; rw [h3]; exact five_set X2.out
      have E3 : Below w.heap.size w w3 := by rw [h3]; exact B2.out.setCell (p := ⟨w.heap.size, 4, none⟩) (Nat.le_refl _) _
      have hk3 : ∀ k, w1.heap.size ≤ k → k < w2.heap.size → w3.heap[k]? = w2.heap[k]? := fun k h _ => by rw [h3]; exact Below.heap_setCell w2 _ _ k (by simp; omega)
      have G3 : Hid (w3.heap[g]? = some (.cells #[.int .i64 t, .int .i64 c0, .int .i64 (stA m fs t 1), .int .i64 (stA m fs t 2), q] 54 (0, 0))) := (hk3 g hg (Array.getElem?_eq_some_iff.1 HG.out).1).trans HG.out
      have R3 : Hid (Ch w3 (g + 1) m fs zs (i + 2) f q) := HR.out.kept (Nat.le_refl _) (fun k h h' => hk3 k (by omega) h')
      have HE3 := Lib.hid E3
      have hS : ∀ W, Below w3.heap.size w3 W → (W.cell? ⟨w.heap.size, 0, none⟩ = some (.int .i64 s) ∧ W.cell? ⟨w.heap.size, 1, none⟩ = some (.int .i64 a0) ∧ W.cell? ⟨w.heap.size, 2, none⟩ = some (.int .i64 a1) ∧ W.cell? ⟨w.heap.size, 3, none⟩ = some (.int .i64 a2) ∧ W.cell? ⟨w.heap.size, 4, none⟩ = some (.pointer (some ⟨g, 0, none⟩))) ∧ (W.cell? ⟨g, 0, none⟩ = some (.int .i64 t) ∧ W.cell? ⟨g, 1, none⟩ = some (.int .i64 c0) ∧ W.cell? ⟨g, 2, none⟩ = some (.int .i64 (stA m fs t 1)) ∧ W.cell? ⟨g, 3, none⟩ = some (.int .i64 (stA m fs t 2))) := fun W hW =>
        ⟨(five_cells ((hW.block _ (Array.getElem?_eq_some_iff.1 X3.out).1).trans X3.out)).1, by obtain ⟨⟨a, b, c, d, -⟩, -⟩ := five_cells ((hW.block _ (Array.getElem?_eq_some_iff.1 G3.out).1).trans G3.out); exact ⟨a, b, c, d⟩⟩
      have HS := Lib.hid hS
      rw [← h3]
      clear h3 hk3 E3 x0 x1 x2 x3 x4 x5 X2 HG HR B2 hS
      obtain ⟨⟨x0, x1, x2, x3, x4⟩, v0, v1, v2, v3⟩ := HS.out w3 (Below.refl _ _)
      go_region_held3 (fun W => (W.cell? ⟨w.heap.size, 0, none⟩ = some (.int .i64 s) ∧ W.cell? ⟨w.heap.size, 1, none⟩ = some (.int .i64 a0) ∧ W.cell? ⟨w.heap.size, 2, none⟩ = some (.int .i64 a1) ∧ W.cell? ⟨w.heap.size, 3, none⟩ = some (.int .i64 a2) ∧ W.cell? ⟨w.heap.size, 4, none⟩ = some (.pointer (some ⟨g, 0, none⟩))) ∧ (W.cell? ⟨g, 0, none⟩ = some (.int .i64 t) ∧ W.cell? ⟨g, 1, none⟩ = some (.int .i64 c0) ∧ W.cell? ⟨g, 2, none⟩ = some (.int .i64 (stA m fs t 1)) ∧ W.cell? ⟨g, 3, none⟩ = some (.int .i64 (stA m fs t 2))))
        (go_keep)
        (first | (go_at_call 39; refine (leads_any _ _ _ _ _ _ _ _ _).mono ?_; rintro e w4 ⟨rfl, hb4⟩; have hb4' : Below w3.heap.size w3 w4 := below_drew hb4 (by simp); obtain ⟨⟨x0, x1, x2, x3, x4⟩, v0, v1, v2, v3⟩ := HS.out w4 hb4'))
      have E4 := HE3.out.trans (hb4'.mono (Nat.le_of_lt (Array.getElem?_eq_some_iff.1 X3.out).1))
      have HE4 := Lib.hid E4
      have ge := HEV.out w4 E4
      clear E4 hb4 hb4' x0 x1 x2 x3 x4 v0 v1 v2 v3
      go_wp2_with fail
      exact ⟨rfl, rfl, HE4.out⟩
end Go.Proofs.YthonkphjahomeaaDoor
