/-
  Several texts in one: Hf0 Gc Hf1 Hf2 Hf3.
-/
import Derived.Test.YtlodaeoikkjbkaaDoorMgD
import Derived.Test.YtlodaeoikkjbkaaDoorTt
import Derived.Test.YtlodaeoikkjbkaaDoorGa
import Derived.Deep.DeepCutAuto
import Derived.Deep.RegionWith
import Derived.Test.YtlodaeoikkjbkaaDoorOn1
import Derived.Test.YtlodaeoikkjbkaaDoorMgA
import Derived.Test.YtlodaeoikkjbkaaDoorMgE
import Derived.Test.YtlodaeoikkjbkaaDoorNbI
import Derived.BigRegion
import Derived.BigQuiet
import Derived.Deep.QuietTactic
namespace Go.Proofs.YtlodaeoikkjbkaaDoor
set_option maxRecDepth 100000
set_option maxRecDepth 100000
open Go.RowKit

/-- The distance from vertex 0. -/
def dz (zs : List Int) (w : Nat) : Int := el (dsL zs 0) w
variable {zs : List Int} (h0 : 0 < zs.length) (h62 : zs.length ≤ 62) (hz : ∀ i, i < zs.length → (el zs i).toNat < 2 ^ zs.length)
  (sym : ∀ a b, a < zs.length → b < zs.length → bt (el zs b) a = bt (el zs a) b) (irr : ∀ a, a < zs.length → bt (el zs a) a = false)
  (hcon : ∀ w, w < zs.length → 0 ≤ dz zs w)

end Go.Proofs.YtlodaeoikkjbkaaDoor
namespace Go.Proofs.YtlodaeoikkjbkaaDoor
set_option maxRecDepth 100000
set_option maxRecDepth 100000
open Go.RowKit

/-- In W the slice u reads as the rows of distances. -/
def RdD (W : World) (gu : Nat) (zs : List Int) : Prop := ∀ v, v < zs.length → ∃ p c, W.cell? ⟨gu, v, none⟩ = some (.slice (some ⟨p, 0, none⟩) zs.length c) ∧ ∀ x, x < zs.length → W.cell? ⟨p, x, none⟩ = some (.int .i64 (el (dsL zs v) x))
theorem cell_same {W W' : World} {k i : Nat} (h : W'.heap[k]? = W.heap[k]?) : W'.cell? ⟨k, i, none⟩ = W.cell? ⟨k, i, none⟩ := by
  unfold World.cell?
  simp only [h]
/-- The rows made by a call are read wherever the blocks that the call made are as they were. -/
theorem TS.rdD {W2 W' : World} {B gu cu : Nat} {zs : List Int} (h : TS W2 B (.slice (some ⟨gu, 0, none⟩) zs.length cu) (dsLL zs zs.length)) (hs : ∀ k, B ≤ k → k < W2.heap.size → W'.heap[k]? = W2.heap[k]?) : RdD W' gu zs := by
  intro v hv
  obtain ⟨cs, h1, h2, h3⟩ := h
  rw [dsLL_length] at h1 h2 h3
  have hgu := World.ownsRow.lt h1 gu rfl
  obtain ⟨u, a, b, _, _⟩ := h3 v hv
  rw [dsLL_at hv] at b
  have hc := (World.ownsRow.cellAt h1 v (by omega)).trans a
  rcases b.form with ⟨_, h0⟩ | ⟨g, cap, rfl, hg0, hg1⟩
  · have := congrArg List.length h0; rw [dsL_length, List.length_nil] at this; omega
  · rw [dsL_length] at hc b
    refine ⟨g, cap, (cell_same (hs gu hgu.1 hgu.2)).trans hc, fun x hx => ?_⟩
    rw [cell_same (hs g hg0 hg1)]
    have b' := b
    unfold Own at b'
    rw [dsL_length] at b'
    exact (World.ownsRow.cellAt b' x (by omega)).trans (map_at _ x (by rw [dsL_length]; exact hx))

/-- What stands behind the model's first line: the rows of distances, and a graph without edges in a box. -/
def R6 (Wz : World) (zs : List Int) (s t : Value) (wx : World) : Prop := ∃ gu cu gE hB B S : Nat, s = .slice (some ⟨gu, 0, none⟩) zs.length cu ∧ t = .pointer (some ⟨hB, 0, none⟩) ∧ Hid (∀ W', (∀ k, B ≤ k → k < S → W'.heap[k]? = wx.heap[k]?) → RdD W' gu zs) ∧ Hid (wx.heap[hB]? = some (.cells #[.int .i64 zs.length, .slice (some ⟨gE, 0, none⟩) zs.length zs.length] 28 (0, 0))) ∧ Hid (Blk wx gE (List.replicate zs.length 0)) ∧ Below Wz.heap.size Wz wx ∧ Wz.heap.size ≤ gE ∧ Wz.heap.size ≤ hB ∧ gE ≠ hB ∧ S ≤ gE ∧ (hB < B ∨ S ≤ hB)
abbrev G06 : Obj := .cells #[.int .i64 0, .slice none 0 0] 28
theorem R6.mk {Wz w2 wx : World} {zs : List Int} {u : Value} {gE hB B : Nat} (h0 : 0 < zs.length) (hTS : TS w2 B u (dsLL zs zs.length)) (hk : ∀ k, B ≤ k → k < w2.heap.size → wx.heap[k]? = w2.heap[k]?)
    (hbox : wx.heap[hB]? = some (.cells #[.int .i64 zs.length, .slice (some ⟨gE, 0, none⟩) zs.length zs.length] 28 (0, 0))) (hblk : Blk wx gE (List.replicate zs.length 0)) (hbel : Below Wz.heap.size Wz wx) (h1 : Wz.heap.size ≤ gE) (h2 : Wz.heap.size ≤ hB) (h3 : gE ≠ hB) (h4 : w2.heap.size ≤ gE) (h5 : hB < B ∨ w2.heap.size ≤ hB) :
    R6 Wz zs u (.pointer (some ⟨hB, 0, none⟩)) wx := by
  rcases hTS.form with ⟨_, e⟩ | ⟨gu, cu, e, _, _⟩
  · have := congrArg List.length e; rw [dsLL_length, List.length_nil] at this; omega
  · rw [dsLL_length] at e
    subst e
    exact ⟨gu, cu, gE, hB, B, w2.heap.size, rfl, rfl, fun W' hW => hTS.rdD fun k hb hs => (hW k hb hs).trans (hk k hb hs), hbox, hblk, hbel, h1, h2, h3, h4, h5⟩
theorem R6.last {Wz w2 w3 : World} {zs : List Int} {u : Value} (h0 : 0 < zs.length) (hTS : TS w2 Wz.drew.heap.size u (dsLL zs zs.length)) (hb2 : Below Wz.drew.heap.size Wz.drew w2) (hB3 : Blk w3 (w2.heap.size + 1) (List.replicate zs.length 0)) (hb3 : Below w2.heap.size w2 w3) :
    R6 Wz zs u (.pointer (some ⟨w3.heap.size, 0, none⟩)) (w3.alloc (.cells #[.int .i64 zs.length, .slice (some ⟨w2.heap.size + 1, 0, none⟩) zs.length zs.length] 28)) := by
  have s2 : Wz.heap.size ≤ w2.heap.size := hb2.size
  have s3 := hb3.size
  have l3 := hB3.lt
  have E2 : Below Wz.heap.size Wz w2 := ((Below.refl _ _).drew).trans hb2
  have hal := (Below.refl w3.heap.size w3).alloc (Nat.le_refl _) (.cells #[.int .i64 zs.length, .slice (some ⟨w2.heap.size + 1, 0, none⟩) zs.length zs.length] 28)
  exact R6.mk h0 hTS (fun k _ hk => (hal.block k (by omega)).trans (hb3.block k hk)) (World.alloc_heap_new w3 _) (hB3.belowAll hal) ((E2.trans (hb3.mono s2)).alloc (by omega) _) (by omega) (by omega) (by omega) (by omega) (.inr (by omega))
theorem R6.first {Wz w2 w3 : World} {zs : List Int} {u : Value} (h0 : 0 < zs.length) (hTS : TS w2 (Wz.drew.alloc G06).heap.size u (dsLL zs zs.length)) (hb2 : Below (Wz.drew.alloc G06).heap.size (Wz.drew.alloc G06) w2) (hB3 : Blk w3 (w2.heap.size + 1) (List.replicate zs.length 0)) (hb3 : Below w2.heap.size w2 w3) :
    R6 Wz zs u (.pointer (some ⟨Wz.heap.size, 0, none⟩)) ((w3.setCell ⟨Wz.heap.size, 0, none⟩ (.int .i64 zs.length)).setCell ⟨Wz.heap.size, 1, none⟩ (.slice (some ⟨w2.heap.size + 1, 0, none⟩) zs.length zs.length)) := by
  have l3 := hB3.lt
  rw [World.size_alloc] at hTS hb2
  have s2 : Wz.heap.size + 1 ≤ w2.heap.size := by have := hb2.size; rw [World.size_alloc] at this; exact this
  have E1 : Below Wz.heap.size Wz (Wz.drew.alloc G06) := ((Below.refl _ _).drew).alloc (Nat.le_refl _) _
  have E2 : Below Wz.heap.size Wz w2 := E1.trans (hb2.mono (Nat.le_succ _))
  have hbx : w3.heap[Wz.heap.size]? = some G06 := (hb3.block _ (by omega)).trans ((hb2.block _ (Nat.lt_succ_self _)).trans (heap_new_at Wz.drew _ _ rfl))
  have b4 : Below Wz.heap.size w3 ((w3.setCell ⟨Wz.heap.size, 0, none⟩ (.int .i64 zs.length)).setCell ⟨Wz.heap.size, 1, none⟩ (.slice (some ⟨w2.heap.size + 1, 0, none⟩) zs.length zs.length)) := ((Below.refl _ _).setCell (p := ⟨Wz.heap.size, 0, none⟩) (by simp) _).setCell (p := ⟨Wz.heap.size, 1, none⟩) (by simp) _
  refine R6.mk (B := Wz.heap.size + 1) h0 hTS (fun k hk1 hk => ?_) (two_set hbx) ((hB3.other (by simp; omega) _).other (by simp; omega) _) ((E2.trans (hb3.mono (by omega))).trans b4) (by omega) (by omega) (by omega) (by omega) (.inl (by omega))
  refine Eq.trans ?_ (hb3.block k hk)
  exact (Below.heap_setCell _ _ _ _ (by simp; omega)).trans (Below.heap_setCell _ _ _ _ (by simp; omega))

end Go.Proofs.YtlodaeoikkjbkaaDoor
namespace Go.Proofs.YtlodaeoikkjbkaaDoor
set_option maxRecDepth 100000
set_option maxRecDepth 100000
open Go.RowKit

theorem isG_rowsF {n : Nat} (h1 : 1 ≤ n) (h2 : n ≤ 62) {f : Nat → Nat → Bool} (hs : ∀ a b, f a b = f b a) (hi : ∀ a, f a a = false) : isG (n : Int) (rowsF n f) = true := by
  have hl : (rowsF n f).length = n := rowsF_length _ _
  have hbt : ∀ a b, a < n → bt (el (rowsF n f) a) b = (decide (b < n) && f a b) := fun a b ha => by
    rw [el_rowsF n f a ha]; unfold bt; rw [Int.toNat_natCast, bitsN_testBit]
  unfold isG
  rw [hl]
  simp only [Bool.and_eq_true, decide_eq_true_eq]
  refine ⟨⟨⟨⟨by omega, by omega⟩, trivial⟩, ?_⟩, ?_⟩
  · unfold rowsOk
    rw [List.all_eq_true]
    intro v hv
    have hvn := List.mem_range.1 hv
    unfold rowOk
    rw [hbt v v hvn, hi, el_rowsF n f v hvn]
    have hlt := bitsN_lt (f v) n
    have e : ((2 : Int) ^ n) = ((2 ^ n : Nat) : Int) := by simp
    simp only [Int.toNat_natCast, e, Bool.and_false, Bool.not_false, Bool.and_true, Bool.and_eq_true, decide_eq_true_eq]
    omega
  · unfold symTo symAt
    rw [List.all_eq_true]
    intro i hi'
    rw [List.all_eq_true]
    intro j hj
    have h6 := List.mem_range.1 hi'
    have h7 := List.mem_range.1 hj
    rw [hbt i j h6, hbt j i (by omega), hs, decide_eq_true (by omega), decide_eq_true (by omega)]; simp
theorem gaR_isG {zs : List Int} (hg : isG zs.length zs = true) (i : Int) : isG (zs.length : Int) (gaR zs i) = true := by
  have h1 : (1 : Int) ≤ zs.length ∧ (zs.length : Int) ≤ 62 := by unfold isG at hg; simp only [Bool.and_eq_true, decide_eq_true_eq] at hg; exact hg.1.1.1
  refine isG_rowsF (by omega) (by omega) (adjS_symm _) fun a => ?_
  cases e : adjS (whereS (gaF zs i) zs.length) a a with
  | false => rfl
  | true =>
    obtain ⟨p, hp, h2, h3⟩ := (adjS_iff _ _ _).1 e
    have := (whereS_iff (gaF zs i) zs.length p).1 hp
    omega
theorem adjW {f : Nat → Nat → Bool} {n x y : Nat} : adjS (whereS f n) x y = true ↔ x ≠ y ∧ max x y < n ∧ f (min x y) (max x y) = true := by
  rw [adjS_iff]
  constructor
  · rintro ⟨⟨a, b⟩, hp, h1, h2⟩
    obtain ⟨h3, h4, h5⟩ := (whereS_iff f n _).1 hp
    simp only at h1 h2 h3 h4 h5
    have e1 : min a b = a := by omega
    have e2 : max a b = b := by omega
    rw [e1] at h1
    rw [e2] at h2
    refine ⟨by omega, by omega, by rw [h1, h2]; exact h5⟩
  · rintro ⟨h1, h2, h3⟩
    exact ⟨(min x y, max x y), (whereS_iff f n _).2 ⟨by simp only; omega, h2, h3⟩, by simp only; omega, by simp only; omega⟩
end Go.Proofs.YtlodaeoikkjbkaaDoor
namespace Go.Proofs.YtlodaeoikkjbkaaDoor
set_option maxRecDepth 100000
set_option maxRecDepth 100000
open Go.RowKit

def cnC (n : Int) (zs : List Int) : Int := if isG n zs then if connB zs then 0 else 5 else 1
theorem isG_sym2 {zs : List Int} (hg : isG zs.length zs = true) : (∀ a b, a < zs.length → b < zs.length → bt (el zs b) a = bt (el zs a) b) ∧ (∀ a, a < zs.length → bt (el zs a) a = false) ∧ ∀ i, i < zs.length → (el zs i).toNat < 2 ^ zs.length := by
  obtain ⟨h1, h2, h3, h4, -⟩ := isG_parts hg
  refine ⟨fun a b ha hb => isG_symm hg ha hb, fun a ha => rowOk_not (rowsOk_at h4 ha), fun i hi => ?_⟩
  have q0 := (isG_row_ok hg i hi).1
  have q1 := rowOk_le (rowsOk_at h4 hi)
  rw [Int.toNat_natCast] at q1
  have e : ((2 : Int) ^ zs.length) = ((2 ^ zs.length : Nat) : Int) := by simp
  rw [e] at q1
  omega

end Go.Proofs.YtlodaeoikkjbkaaDoor
namespace Go.Proofs.YtlodaeoikkjbkaaDoor
set_option maxRecDepth 100000
set_option maxRecDepth 100000
open Go.RowKit

set_option maxHeartbeats 800000 in
theorem l06Code_any (n : Int) (v : Value) (zs : List Int) (w : World) (h : Sl w v zs) (hl : zs.length ≤ 9223372036854775807) :
    Calls Tryd.prog 52 #[.agg #[.int .i64 n, v]] w fun e w' => e = .returned (.int .i64 (cnC n zs)) ∧ Below w.heap.size w w' := by
  have D0 : Below w.heap.size w (w.alloc (.cells #[.int .i64 n, v] 28)) := (Below.refl _ _).alloc (Nat.le_refl _) _
  have his := l01Is_any n v zs _ (h.below D0) hl
  have HG := Lib.hid (World.alloc_heap_new w (.cells #[.int .i64 n, v] 28))
  unfold cnC
  cases hg : isG n zs with
  | false =>
    rw [hg] at his
    rw [if_neg (by simp)]
    clear h hg
    go_enter Tryd.func52, Tryd.ntmps52
    go_wp2_with (go_at_call 38; refine his.mono ?_; rintro e w1 ⟨rfl, hb1⟩)
    go_ret
    exact ⟨rfl, D0.trans (hb1.mono (by simp))⟩
  | true =>
    rw [hg] at his
    rw [if_pos rfl]
    obtain ⟨h1, _, h3, _⟩ := isG_parts hg
    obtain ⟨b, off, cap, rfl, hb, hc⟩ := sl_some h (by omega)
    have HCN := Lib.hid (fun W (hW : Below w.heap.size w W) => conn2_some n b off cap zs W (Nat.lt_of_lt_of_le hb hW.size) (hc.below hW hb) hg)
    clear h hg h3 hc hb
    cases hcn : connB zs with
    | true =>
      rw [hcn] at HCN
      rw [if_pos rfl]
      clear hcn
      go_enter Tryd.func52, Tryd.ntmps52
      go_wp2_with (first
        | (go_at_call 38; refine his.mono ?_; rintro e w1 ⟨rfl, hb1⟩; have HX := Lib.hid ((hb1.block w.heap.size (by simp)).trans HG.out); have c0 := (two_cells HX.out).1; have c1 := (two_cells HX.out).2.1; have HB1 := Lib.hid (D0.trans (hb1.mono (by simp))); clear hb1)
        | (go_at_call 73; refine (HCN.out _ HB1.out).mono ?_; rintro e w2 ⟨rfl, hb2⟩))
      go_ret
      exact ⟨rfl, HB1.out.trans (hb2.mono HB1.out.size)⟩
    | false =>
      rw [hcn] at HCN
      rw [if_neg (by simp)]
      clear hcn
      go_enter Tryd.func52, Tryd.ntmps52
      go_wp2_with (first
        | (go_at_call 38; refine his.mono ?_; rintro e w1 ⟨rfl, hb1⟩; have HX := Lib.hid ((hb1.block w.heap.size (by simp)).trans HG.out); have c0 := (two_cells HX.out).1; have c1 := (two_cells HX.out).2.1; have HB1 := Lib.hid (D0.trans (hb1.mono (by simp))); clear hb1)
        | (go_at_call 73; refine (HCN.out _ HB1.out).mono ?_; rintro e w2 ⟨rfl, hb2⟩))
      go_ret
      exact ⟨rfl, HB1.out.trans (hb2.mono HB1.out.size)⟩

theorem wrap_y (y : Nat) (h : y ≤ 62) : IntKind.u64.wrap (y : Int) = y := by rw [IntKind.wrap_u64]; omega
end Go.Proofs.YtlodaeoikkjbkaaDoor
