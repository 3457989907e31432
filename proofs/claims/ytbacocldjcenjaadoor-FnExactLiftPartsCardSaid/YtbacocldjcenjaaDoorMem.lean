/-
  A slice of integers that reads as a list, and what keeps it so.
-/
import Derived.Test.YtbacocldjcenjaaDoorLeaf
namespace Go.Proofs.YtbacocldjcenjaaDoor
set_option maxRecDepth 100000
open Go.RowKit

/-- The cells from off on in block b hold the numbers of a list. -/
def Cells (w : World) (b off : Nat) (zs : List Int) : Prop := ∀ i, i < zs.length → w.cell? ⟨b, off + i, none⟩ = some (.int .i64 (el zs i))

theorem Cells.below {B b off : Nat} {zs : List Int} {w w' : World} (h : Cells w b off zs) (hb : Below B w w') (hl : b < B) : Cells w' b off zs :=
  fun i hi => (hb.cell (p := ⟨b, off + i, none⟩) hl).trans (h i hi)

/-- The slice value v reads as zs in w. -/
def Sl (w : World) (v : Value) (zs : List Int) : Prop :=
  (∃ a c, v = .slice a 0 c ∧ zs = []) ∨ ∃ b off cap, v = .slice (some ⟨b, off, none⟩) zs.length cap ∧ b < w.heap.size ∧ Cells w b off zs

theorem Sl.below {w w' : World} {v : Value} {zs : List Int} (h : Sl w v zs) (hb : Below w.heap.size w w') : Sl w' v zs := by
  rcases h with h | ⟨b, off, cap, e, hl, hc⟩
  · exact .inl h
  · exact .inr ⟨b, off, cap, e, Nat.lt_of_lt_of_le hl hb.size, hc.below hb hl⟩

/-- Old cells and marks read as before behind what leaves all that was there. -/
theorem bcell {W w1 : World} (hb : Below W.heap.size W w1) : (∀ b o, b < W.heap.size → w1.cell? ⟨b, o, none⟩ = W.cell? ⟨b, o, none⟩) ∧ (∀ b o, b < W.heap.size → w1.frozen? ⟨b, o, none⟩ = W.frozen? ⟨b, o, none⟩) :=
  ⟨fun b o h => hb.cell (p := ⟨b, o, none⟩) h, fun b o h => hb.frozen (p := ⟨b, o, none⟩) h⟩

/-- A contract that leaves the world alone, inside 'go_quiet'. -/
theorem qsame {P : Program} {f : FuncId} {args : Array Value} {w : World} {n : Nat} {v : Value}
    (h : Calls P f args (w.drewN n) fun e w' => e = .returned v ∧ w.drewN n = w') : Calls P f args (w.drewN n) fun e w'' => e = .returned v ∧ ∃ m, w'' = w.drewN m :=
  h.mono fun _ _ ⟨he, hm⟩ => ⟨he, n, hm.symm⟩
theorem drewN_below {B : Nat} {a w : World} (h : Below B a w) (n : Nat) : Below B a (w.drewN n) := ⟨h.os, h.tape, h.output, h.size, h.block⟩

/-- What is a graph: the size, the rows, their digits. -/
def rowOk (n : Int) (z : Int) (v : Nat) : Bool := decide (0 ≤ z) && decide (z ≤ 2 ^ n.toNat - 1) && !bt z v
def rowsOk (n : Int) (zs : List Int) (k : Nat) : Bool := (List.range k).all fun v => rowOk n (el zs v) v
def symAt (zs : List Int) (v k : Nat) : Bool := (List.range k).all fun w => bt (el zs v) w == bt (el zs w) v
def symTo (zs : List Int) (k : Nat) : Bool := (List.range k).all fun v => symAt zs v v
def isG (n : Int) (zs : List Int) : Bool := decide (1 ≤ n) && decide (n ≤ 62) && decide ((zs.length : Int) = n) && rowsOk n zs zs.length && symTo zs zs.length

/-- The box H holds a graph value whose rows lie at off of block b. -/
def GBox (w : World) (H : Nat) (n : Int) (b off cap : Nat) (zs : List Int) : Prop :=
  w.cell? ⟨H, 0, none⟩ = some (.int .i64 n) ∧ w.cell? ⟨H, 1, none⟩ = some (.slice (some ⟨b, off, none⟩) zs.length cap) ∧ Cells w b off zs ∧ b ≤ H ∧ H < w.heap.size
theorem GBox.b0 {w : World} {H : Nat} {n : Int} {b off cap : Nat} {zs : List Int} (h : GBox w H n b off cap zs) : w.cell? ⟨H, 0, none⟩ = some (.int .i64 n) := h.1
theorem GBox.b1 {w : World} {H : Nat} {n : Int} {b off cap : Nat} {zs : List Int} (h : GBox w H n b off cap zs) : w.cell? ⟨H, 1, none⟩ = some (.slice (some ⟨b, off, none⟩) zs.length cap) := h.2.1
theorem GBox.cells {w : World} {H : Nat} {n : Int} {b off cap : Nat} {zs : List Int} (h : GBox w H n b off cap zs) : Cells w b off zs := h.2.2.1
theorem GBox.lt {w : World} {H : Nat} {n : Int} {b off cap : Nat} {zs : List Int} (h : GBox w H n b off cap zs) : H + 1 ≤ w.heap.size := h.2.2.2.2
theorem GBox.lb {w : World} {H : Nat} {n : Int} {b off cap : Nat} {zs : List Int} (h : GBox w H n b off cap zs) : b < w.heap.size := Nat.lt_of_le_of_lt h.2.2.2.1 h.2.2.2.2
theorem GBox.below {w w' : World} {H : Nat} {n : Int} {b off cap : Nat} {zs : List Int} (h : GBox w H n b off cap zs) (hb : Below (H + 1) w w') : GBox w' H n b off cap zs :=
  ⟨(hb.cell (p := ⟨H, 0, none⟩) (Nat.lt_succ_self _)).trans h.1, (hb.cell (p := ⟨H, 1, none⟩) (Nat.lt_succ_self _)).trans h.2.1, h.2.2.1.below hb (Nat.lt_succ_of_le h.2.2.2.1), h.2.2.2.1, Nat.lt_of_lt_of_le h.2.2.2.2 hb.size⟩
theorem GBox.new {w : World} {n : Int} {b off cap : Nat} {zs : List Int} (hb : b < w.heap.size) (hc : Cells w b off zs) :
    GBox (w.alloc (.cells #[.int .i64 n, .slice (some ⟨b, off, none⟩) zs.length cap] 38)) w.heap.size n b off cap zs :=
  ⟨by simp, by simp, fun i hi => (World.cell?_alloc_lt _ _ _ hb).trans (hc i hi), Nat.le_of_lt hb, by simp⟩
theorem GBox.drewN {w : World} {H : Nat} {n : Int} {b off cap : Nat} {zs : List Int} (h : GBox w H n b off cap zs) (m : Nat) : GBox (w.drewN m) H n b off cap zs := h.below (drewN_below (Below.refl _ _) m)

set_option maxHeartbeats 400000 in
theorem has_rows (n : Int) (b off cap : Nat) (zs : List Int) (a c : Int) (w : World) (hb : b < w.heap.size) (hc : Cells w b off zs) (ha0 : 0 ≤ a) (ha : a < zs.length) (hc0 : 0 ≤ c) (hc1 : c < 62)
    (hz : ∀ i, i < zs.length → 0 ≤ el zs i ∧ el zs i ≤ 9223372036854775807) :
    Calls Tryd.prog 19 #[.agg #[.int .i64 n, .slice (some ⟨b, off, none⟩) zs.length cap], .int .i64 a, .int .i64 c] w fun e w' => e = .returned (.bool (bt (el zs a.toNat) c.toNat)) ∧ Below w.heap.size w w' :=
  has_any n b off zs.length cap (el zs a.toNat) a c w hb (hc _ (by omega)) ha0 ha hc0 hc1 (hz _ (by omega)).1 (hz _ (by omega)).2 _ rfl

theorem rowsOk_succ (n : Int) (zs : List Int) (k : Nat) : rowsOk n zs (k + 1) = (rowsOk n zs k && rowOk n (el zs k) k) := by
  unfold rowsOk; rw [List.range_succ, List.all_append]; simp
theorem symAt_succ (zs : List Int) (v k : Nat) : symAt zs v (k + 1) = (symAt zs v k && (bt (el zs v) k == bt (el zs k) v)) := by
  unfold symAt; rw [List.range_succ, List.all_append]; simp
theorem symTo_succ (zs : List Int) (k : Nat) : symTo zs (k + 1) = (symTo zs k && symAt zs k k) := by
  unfold symTo; rw [List.range_succ, List.all_append]; simp
theorem rowsOk_at {n : Int} {zs : List Int} {k v : Nat} (h : rowsOk n zs k = true) (hv : v < k) : rowOk n (el zs v) v = true := by
  unfold rowsOk at h; exact List.all_eq_true.1 h v (List.mem_range.2 hv)
theorem rowOk_ge {n z : Int} {v : Nat} (h : rowOk n z v = true) : 0 ≤ z := by
  unfold rowOk at h; simp at h; exact h.1.1
theorem rowOk_le {n z : Int} {v : Nat} (h : rowOk n z v = true) : z ≤ 2 ^ n.toNat - 1 := by
  unfold rowOk at h; simp at h; exact h.1.2
theorem rowOk_not {n z : Int} {v : Nat} (h : rowOk n z v = true) : bt z v = false := by
  unfold rowOk at h; simp at h; exact h.2
theorem rowOk_mk {n z : Int} {v : Nat} (h0 : 0 ≤ z) (h1 : z ≤ 2 ^ n.toNat - 1) (h2 : bt z v = false) : rowOk n z v = true := by
  unfold rowOk; simp [h0, h1, h2]
theorem rowOk_no {n z : Int} {v : Nat} (h : ¬ (0 ≤ z ∧ z ≤ 2 ^ n.toNat - 1) ∨ bt z v = true) : rowOk n z v = false := by
  cases e : rowOk n z v with
  | false => rfl
  | true => rcases h with h | h
            · exact absurd ⟨rowOk_ge e, rowOk_le e⟩ h
            · rw [rowOk_not e] at h; cases h
theorem isG_row {n : Int} {zs : List Int} {k : Nat} (hk : k < zs.length) (h : rowOk n (el zs k) k = false) : isG n zs = false := by
  cases e : isG n zs with
  | false => rfl
  | true =>
    unfold isG at e; simp only [Bool.and_eq_true] at e
    rw [rowsOk_at e.1.2 hk] at h; cases h
theorem isG_sym {n : Int} {zs : List Int} {v w : Nat} (hv : v < zs.length) (hw : w < v) (h : (bt (el zs v) w == bt (el zs w) v) = false) : isG n zs = false := by
  cases e : isG n zs with
  | false => rfl
  | true =>
    unfold isG at e; simp only [Bool.and_eq_true] at e
    have h1 := e.2
    unfold symTo at h1
    have h2 := List.all_eq_true.1 h1 v (List.mem_range.2 hv)
    unfold symAt at h2
    have h3 := List.all_eq_true.1 h2 w (List.mem_range.2 hw)
    rw [h3] at h; cases h
theorem isG_mk {n : Int} {zs : List Int} (h1 : 1 ≤ n) (h2 : n ≤ 62) (h3 : (zs.length : Int) = n) (h4 : rowsOk n zs zs.length = true) (h5 : symTo zs zs.length = true) : isG n zs = true := by
  unfold isG; simp [h1, h2, h3, h4, h5]
end Go.Proofs.YtbacocldjcenjaaDoor
