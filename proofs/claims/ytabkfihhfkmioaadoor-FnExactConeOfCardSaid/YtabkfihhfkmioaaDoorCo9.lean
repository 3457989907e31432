/-
  Cones: plain facts, and spec.l09Code of one graph.
-/
import Derived.Test.YtabkfihhfkmioaaDoorPb5
import Derived.Test.YtabkfihhfkmioaaDoorEx9
import Derived.Test.YtabkfihhfkmioaaDoorOn1
namespace Go.Proofs.YtabkfihhfkmioaaDoor
set_option maxRecDepth 100000
open Go.RowKit

theorem blk_cells {w : World} {g : Nat} {L : List Int} (h : Blk w g L) : Cells w g 0 L := fun i hi => by rw [Nat.zero_add]; exact h.cell hi
theorem flip_add {z : Int} {b : Nat} (h0 : 0 ≤ z) (h1 : z < 2 ^ b) : flip z b = z + 2 ^ b := by
  obtain ⟨x, rfl⟩ := Int.eq_ofNat_of_zero_le h0
  have e : ((2 : Int) ^ b) = ((2 ^ b : Nat) : Int) := by simp
  have hx : x < 2 ^ b := by rw [e] at h1; omega
  have hb : bt (x : Int) b = false := by unfold bt; rw [Int.toNat_natCast]; exact Nat.testBit_lt_two_pow hx
  rw [← por_flip hb]
  unfold por
  rw [Int.toNat_natCast, Nat.or_comm]
  have h2 := Nat.two_pow_add_eq_or_of_lt hx 1
  rw [Nat.mul_one] at h2
  rw [← h2, e]; omega
theorem bt_small {z : Int} {b : Nat} (h0 : 0 ≤ z) (h1 : z < 2 ^ b) : bt z b = false := by
  obtain ⟨x, rfl⟩ := Int.eq_ofNat_of_zero_le h0
  have e : ((2 : Int) ^ b) = ((2 ^ b : Nat) : Int) := by simp
  unfold bt; rw [Int.toNat_natCast]; exact Nat.testBit_lt_two_pow (by rw [e] at h1; omega)
theorem flipL_at {zs : List Int} {a b i : Nat} (ha : a < zs.length) (hb : b < zs.length) : el (flipL zs a b) i = if i = b then flip (el zs b) a else if i = a then flip (el zs a) b else el zs i := by
  unfold flipL
  by_cases e1 : i = b
  · subst e1; rw [if_pos rfl]; exact el_set_same _ _ _ (by simpa using hb)
  · rw [if_neg e1, el_set_ne _ _ _ _ (fun e => e1 e.symm)]
    by_cases e2 : i = a
    · subst e2; rw [if_pos rfl]; exact el_set_same _ _ _ ha
    · rw [if_neg e2, el_set_ne _ _ _ _ (fun e => e2 e.symm)]

/-- The rows while the new vertex is joined: with the first k vertices. -/
def coneT (zs : List Int) (k : Nat) : List Int := (List.range (zs.length + 1)).map fun a => if a < zs.length then (if a < k then el zs a + 2 ^ zs.length else el zs a) else 2 ^ k - 1
theorem coneT_length (zs : List Int) (k : Nat) : (coneT zs k).length = zs.length + 1 := by simp [coneT]
theorem coneT_at (zs : List Int) (k a : Nat) (h : a < zs.length + 1) : el (coneT zs k) a = if a < zs.length then (if a < k then el zs a + 2 ^ zs.length else el zs a) else 2 ^ k - 1 := by
  unfold coneT
  exact el_map_range (fun a => if a < zs.length then (if a < k then el zs a + 2 ^ zs.length else el zs a) else 2 ^ k - 1) _ _ h
theorem coneT_zero (zs : List Int) : besL zs [0] = coneT zs 0 := by
  refine ext_el (by rw [besL_length, coneT_length]; rfl) fun a ha => ?_
  rw [besL_length] at ha
  have ha' : a < zs.length + 1 := ha
  rw [coneT_at zs 0 a ha']
  unfold besL
  by_cases h : a < zs.length
  · rw [if_pos h, if_neg (by omega)]
    simp [el, h, List.getElem?_append_left]
  · have e : a = zs.length := by omega
    subst e
    rw [if_neg (by omega)]
    simp [el]
/-- The rows are within their bounds. -/
def RowsIn (zs : List Int) : Prop := ∀ a, a < zs.length → 0 ≤ el zs a ∧ el zs a < 2 ^ zs.length
theorem rowsIn_of {n : Int} {zs : List Int} (hg : isG n zs = true) : RowsIn zs := fun a ha => by
  obtain ⟨h1, h2, h3, h4, -⟩ := isG_parts hg
  have q := rowsOk_at h4 ha
  have q1 := rowOk_le q
  rw [← h3, Int.toNat_natCast] at q1
  exact ⟨rowOk_ge q, by omega⟩
theorem pow_le_pow (a b : Nat) (h : a ≤ b) : (2 : Int) ^ a ≤ 2 ^ b := by
  have := Nat.pow_le_pow_right (n := 2) (by decide) h
  have e1 : ((2 : Int) ^ a) = ((2 ^ a : Nat) : Int) := by simp
  have e2 : ((2 : Int) ^ b) = ((2 ^ b : Nat) : Int) := by simp
  rw [e1, e2]; omega
theorem pow_pos1 (a : Nat) : (1 : Int) ≤ 2 ^ a := by
  have e1 : ((2 : Int) ^ a) = ((2 ^ a : Nat) : Int) := by simp
  have := Nat.two_pow_pos a
  rw [e1]; omega
theorem coneT_bd {zs : List Int} (hz : RowsIn zs) {k a : Nat} (hk : k ≤ zs.length) (ha : a < zs.length + 1) : 0 ≤ el (coneT zs k) a ∧ el (coneT zs k) a ≤ 2 ^ (zs.length + 1) - 1 := by
  rw [coneT_at zs k a ha]
  have p1 := pow_pos1 zs.length
  have p2 : (2 : Int) ^ (zs.length + 1) = 2 * 2 ^ zs.length := by rw [Int.pow_succ]; omega
  by_cases h : a < zs.length
  · obtain ⟨z0, z1⟩ := hz a h
    rw [if_pos h]
    split <;> omega
  · rw [if_neg h]
    have p3 := pow_pos1 k
    have p4 := pow_le_pow k zs.length hk
    omega
theorem coneT_flip {zs : List Int} (hz : RowsIn zs) {k : Nat} (hk : k < zs.length) : flipL (coneT zs k) k zs.length = coneT zs (k + 1) := by
  have hl := coneT_length zs k
  refine ext_el (by rw [flipL_length, hl, coneT_length]) fun a ha => ?_
  rw [flipL_length, hl] at ha
  rw [flipL_at (by omega) (by omega), coneT_at zs (k + 1) a ha]
  by_cases e1 : a = zs.length
  · have p3 := pow_pos1 k
    have p2 : (2 : Int) ^ (k + 1) = 2 * 2 ^ k := by rw [Int.pow_succ]; omega
    rw [if_pos e1, if_neg (by omega), coneT_at zs k _ (by omega), if_neg (by omega), flip_add (by omega) (by omega)]
    omega
  · have hal : a < zs.length := by omega
    rw [if_neg e1, if_pos hal]
    by_cases e2 : a = k
    · subst e2
      obtain ⟨z0, z1⟩ := hz a hal
      rw [if_pos rfl, if_pos (by omega), coneT_at zs a a ha, if_pos hal, if_neg (by omega), flip_add z0 z1]
    · rw [if_neg e2, coneT_at zs k a ha, if_pos hal]
      by_cases h : a < k
      · rw [if_pos h, if_pos (by omega)]
      · rw [if_neg h, if_neg (by omega)]
theorem coneT_put {zs : List Int} (hz : RowsIn zs) {k : Nat} (hk : k < zs.length) : putL (coneT zs k) k zs.length = coneT zs (k + 1) := by
  rw [← coneT_flip hz hk]
  obtain ⟨z0, z1⟩ := hz k hk
  refine putL_flip (by omega) ?_ ?_
  · rw [coneT_at zs k k (by omega), if_pos hk, if_neg (by omega)]; exact bt_small z0 z1
  · have p3 := pow_pos1 k
    rw [coneT_at zs k _ (by omega), if_neg (by omega)]; exact bt_small (by omega) (by omega)

def coOk (n : Int) (zs : List Int) : Bool := isG n zs && decide (n ≤ 61)
def coN (n : Int) (zs : List Int) : Int := if coOk n zs then n + 1 else 0
def coD (n : Int) (zs : List Int) : List Int := if coOk n zs then coneT zs zs.length else []
def coC (n : Int) (zs : List Int) : Int := if isG n zs then (if n ≤ 61 then 0 else 3) else 1
theorem coD_length (n : Int) (zs : List Int) : (coD n zs).length ≤ 62 := by
  unfold coD
  split
  · rename_i h
    unfold coOk at h
    simp only [Bool.and_eq_true, decide_eq_true_eq] at h
    obtain ⟨h1, h2, h3, -⟩ := isG_parts h.1
    rw [coneT_length]; omega
  · simp

set_option maxHeartbeats 1600000 in
theorem code9_one (n : Int) (v : Value) (zs : List Int) (k : Nat) (w : World) (hk : w.heap[k]? = some (.cells #[.int .i64 n, v] 26 (0, 0))) (hs : Sl w v zs) (hl : zs.length ≤ 9223372036854775807) :
    Calls Tryd.prog 59 #[.slice (some ⟨k, 0, none⟩) 1 1] w fun e w' => e = .returned (.int .i64 (if isG n zs then 0 else 1)) ∧ Below w.heap.size w w' := by
  have his := l01Is_any n v zs w hs hl
  obtain ⟨a0, a1, -, -⟩ := two_cells hk
  cases hg : isG n zs with
  | false =>
    rw [hg] at his
    rw [if_neg (by simp)]
    clear hg hs hk
    go_enter Tryd.func59, Tryd.ntmps59
    go_wp2
    go_loopw [3] (fun i wr => i = .int .i64 0 ∧ wr = w) (fun i _ => 1 - (intOf i).toNat)
    case atStart => exact ⟨rfl, rfl⟩
    case round =>
      obtain ⟨rfl, rfl⟩ := hrel
      go_wp2_with (go_at_call 78; refine his.mono ?_; rintro e w1 ⟨rfl, hb1⟩)
      go_ret
      exact ⟨rfl, hb1⟩
  | true =>
    rw [hg] at his
    rw [if_pos rfl]
    clear hg hs hk
    go_enter Tryd.func59, Tryd.ntmps59
    go_wp2
    go_loopw [3] (fun i wr => (i = .int .i64 0 ∧ wr = w) ∨ (i = .int .i64 1 ∧ Below w.heap.size w wr)) (fun i _ => 1 - (intOf i).toNat)
    case atStart => exact .inl ⟨rfl, rfl⟩
    case round =>
      rcases hrel with ⟨rfl, rfl⟩ | ⟨rfl, hB⟩
      · go_wp2_with (go_at_call 78; refine his.mono ?_; rintro e w1 ⟨rfl, hb1⟩)
        go_roundw
        case rel => exact .inr ⟨rfl, hb1⟩
        case measure => simp [intOf]
      · go_wp2
        go_ret
        exact ⟨rfl, hB⟩

/-- A box that holds a graph whose rows are owned. -/
def BoxG (W : World) (N : Int) (L : List Int) (t : Value) (X : World) : Prop := ∃ (k : Nat) (u : Value), t = .pointer (some ⟨k, 0, none⟩) ∧ X.heap[k]? = some (.cells #[.int .i64 N, u] 26 (0, 0)) ∧ Own X W.heap.size u L ∧ Below W.heap.size W X ∧ W.heap.size ≤ k ∧ u.ownBlock ≠ some k
theorem BoxG.new {W X : World} {B : Nat} {N : Int} {L : List Int} {ua : Option Addr} {ul uc : Nat} (hO : Own X B (.slice ua ul uc) L) (hb : Below W.heap.size W X) (hB : W.heap.size ≤ B) : BoxG W N L (.pointer (some ⟨X.heap.size, 0, none⟩)) (X.alloc (.cells #[.int .i64 N, .slice ua ul uc] 26)) :=
  ⟨X.heap.size, _, rfl, World.alloc_heap_new X _, (hO.base hB).below ((Below.refl _ _).alloc (Nat.le_refl _) _), hb.alloc hb.size _, hb.size, fun e => by have := hO.lt _ e; omega⟩
theorem BoxG.old {W X : World} {B k : Nat} {N : Int} {L : List Int} {ua : Option Addr} {ul uc : Nat} (hO : Own X B (.slice ua ul uc) L) (hb : Below W.heap.size W X) (hB : W.heap.size ≤ B) (hk : W.heap.size ≤ k) (hkB : k < B) (hq : X.heap[k]? = some (.cells #[.int .i64 0, .slice none 0 0] 26 (0, 0))) : BoxG W N L (.pointer (some ⟨k, 0, none⟩)) ((X.setCell ⟨k, 0, none⟩ (.int .i64 N)).setCell ⟨k, 1, none⟩ (.slice ua ul uc)) := by
  have hne : (Value.slice ua ul uc).ownBlock ≠ some k := fun e => by have := hO.ge _ e; omega
  have hgr : X.grownBy ((X.setCell ⟨k, 0, none⟩ (.int .i64 N)).setCell ⟨k, 1, none⟩ (.slice ua ul uc)) (some k) := grown_set (grown_set ⟨rfl, rfl, rfl, Nat.le_refl _, fun _ _ _ => rfl⟩ _ 0 _) _ 1 _
  exact ⟨k, _, rfl, two_set hq, (hO.base hB).kept hgr (.inr hne), (hb.setCell (p := ⟨k, 0, none⟩) hk _).setCell (p := ⟨k, 1, none⟩) hk _, hk, hne⟩
end Go.Proofs.YtabkfihhfkmioaaDoor
