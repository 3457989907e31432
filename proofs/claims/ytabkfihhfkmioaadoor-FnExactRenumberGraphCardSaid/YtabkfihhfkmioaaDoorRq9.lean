/-
  RenumberGraph: plain facts and the model.
-/
import Derived.Test.YtabkfihhfkmioaaDoorRn9
import Derived.Test.YtabkfihhfkmioaaDoorEi
import Derived.Test.YtabkfihhfkmioaaDoorUfT
import Derived.Test.YtabkfihhfkmioaaDoorPe7
import Derived.Deep.RegionHeld3
import Derived.Deep.DeepCutAuto
namespace Go.Proofs.YtabkfihhfkmioaaDoor
set_option maxRecDepth 100000
open Go.RowKit

/-- The number in the place of vertex i. -/
def pN (ps : List Int) (i : Nat) : Nat := (el ps i).toNat
/-- The edges' images. -/
def imE (zs ps : List Int) : List (Nat × Nat) := (edL zs).map fun x => (pN ps x.1, pN ps x.2)
/-- The same as the model meets them. -/
def rbF (zs : List Int) (w v : Nat) : Bool := bt (el zs v) w
def imS (ps : List Int) (S : List (Nat × Nat)) : List (Nat × Nat) := S.map fun q => (pN ps q.2, pN ps q.1)
theorem imS_snoc (ps : List Int) (S : List (Nat × Nat)) (a b : Nat) : imS ps (S ++ [(a, b)]) = imS ps S ++ [(pN ps b, pN ps a)] := by simp [imS]
theorem wh_iff (f : Nat → Nat → Bool) : ∀ n q, q ∈ whereS f n ↔ q.1 < q.2 ∧ q.2 < n ∧ f q.1 q.2 = true := by
  have hin : ∀ (x k : Nat) (q : Nat × Nat), q ∈ inS f x k ↔ q.1 < k ∧ q.2 = x ∧ f q.1 x = true := by
    intro x k
    induction k with
    | zero => intro q; simp [inS]
    | succ k ih =>
      intro q
      cases e : f k x with
      | true =>
        rw [inS_yes e, List.mem_append, List.mem_singleton, ih]
        constructor
        · rintro (⟨h1, h2, h3⟩ | rfl)
          · exact ⟨by omega, h2, h3⟩
          · exact ⟨Nat.lt_succ_self _, rfl, e⟩
        · rintro ⟨h1, h2, h3⟩
          by_cases h : q.1 = k
          · exact .inr (Prod.ext h h2)
          · exact .inl ⟨by omega, h2, h3⟩
      | false =>
        rw [inS_no e, ih]
        constructor
        · rintro ⟨h1, h2, h3⟩; exact ⟨by omega, h2, h3⟩
        · rintro ⟨h1, h2, h3⟩
          refine ⟨?_, h2, h3⟩
          by_cases h : q.1 = k
          · rw [h, e] at h3; cases h3
          · omega
  intro n
  induction n with
  | zero => intro q; simp [whereS]
  | succ n ih =>
    intro q
    rw [whereS, List.mem_append, ih, hin n n]
    constructor
    · rintro (⟨h1, h2, h3⟩ | ⟨h1, h2, h3⟩)
      · exact ⟨h1, by omega, h3⟩
      · exact ⟨by omega, by omega, by rw [h2]; exact h3⟩
    · rintro ⟨h1, h2, h3⟩
      by_cases h : q.2 = n
      · exact .inr ⟨by omega, h, by rw [← h]; exact h3⟩
      · exact .inl ⟨h1, by omega, h3⟩
theorem edL_in {n : Int} {zs : List Int} (hg : isG n zs = true) {x : Nat × Nat} (h : x ∈ edL zs) : x.1 < x.2 ∧ x.2 < zs.length ∧ bt (el zs x.1) x.2 = true := by
  obtain ⟨v, w⟩ := x
  obtain ⟨h1, h2, h3, h4⟩ := edL_mem.1 h
  refine ⟨h3, ?_, h4⟩
  refine Nat.lt_of_not_le fun hle => ?_
  obtain ⟨g1, g2, g3, g4, -⟩ := isG_parts hg
  have q0 := rowsOk_at g4 h1
  have q1 := rowOk_le q0
  have q2 := rowOk_ge q0
  rw [← g3, Int.toNat_natCast] at q1
  have e : ((2 : Int) ^ zs.length) = ((2 ^ zs.length : Nat) : Int) := by simp
  rw [e] at q1
  have := Nat.two_pow_pos zs.length
  unfold bt at h4
  rw [Nat.testBit_lt_two_pow (Nat.lt_of_lt_of_le (show (el zs v).toNat < 2 ^ zs.length by omega) (Nat.pow_le_pow_right (by decide) hle))] at h4
  cases h4
theorem im_same {n : Int} {zs ps : List Int} (hg : isG n zs = true) : rowsF zs.length (adjS (imS ps (whereS (rbF zs) zs.length))) = rowsF zs.length (adjS (imE zs ps)) := by
  refine rowsF_congr fun v w _ _ => ?_
  rw [Bool.eq_iff_iff, adjS_iff, adjS_iff]
  constructor
  · rintro ⟨p, hp, h1, h2⟩
    obtain ⟨q, hq, rfl⟩ := List.mem_map.1 hp
    obtain ⟨a1, a2, a3⟩ := (wh_iff _ _ _).1 hq
    refine ⟨(pN ps q.1, pN ps q.2), List.mem_map.2 ⟨q, edL_mem.2 ⟨by omega, ?_, a1, ?_⟩, rfl⟩, by simp only at h1 ⊢; omega, by simp only at h2 ⊢; omega⟩
    · have := isG_parts hg; omega
    · rw [isG_symm hg a2 (by omega)]; exact a3
  · rintro ⟨p, hp, h1, h2⟩
    obtain ⟨q, hq, rfl⟩ := List.mem_map.1 hp
    obtain ⟨a1, a2, a3⟩ := edL_in hg hq
    exact ⟨(pN ps q.2, pN ps q.1), List.mem_map.2 ⟨q, (wh_iff _ _ _).2 ⟨a1, a2, by unfold rbF; rw [isG_symm hg (by omega) a2]; exact a3⟩, rfl⟩, by simp only at h1 ⊢; omega, by simp only at h2 ⊢; omega⟩
theorem ren_parts {n : Int} {ps : List Int} (h : renB n ps = true) : (ps.length : Int) = n ∧ ∀ i, i < ps.length → el ps i = ((pN ps i : Nat) : Int) ∧ (pN ps i : Int) < n := by
  unfold renB at h
  simp only [Bool.and_eq_true, decide_eq_true_eq] at h
  refine ⟨h.1, fun i hi => ?_⟩
  have := vs_at h.2.1 hi
  unfold pN
  omega

def rnOk (n : Int) (zs ps : List Int) : Bool := isG n zs && renB n ps
def rnN (n : Int) (zs ps : List Int) : Int := if rnOk n zs ps then n else 0
def rnD (n : Int) (zs ps : List Int) : List Int := if rnOk n zs ps then rowsF zs.length (adjS (imE zs ps)) else []
def rnC (n : Int) (zs ps : List Int) : Int := if isG n zs then (if renB n ps then 0 else 2) else 1
theorem rnD_length (n : Int) (zs ps : List Int) : (rnD n zs ps).length ≤ 62 := by
  unfold rnD
  split
  · rename_i h
    unfold rnOk at h
    simp only [Bool.and_eq_true] at h
    obtain ⟨h1, h2, h3, -⟩ := isG_parts h.1
    rw [rowsF_length]; omega
  · simp

theorem cell_same9 {W W' : World} {k i : Nat} (h : W'.heap[k]? = W.heap[k]?) : W'.cell? ⟨k, i, none⟩ = W.cell? ⟨k, i, none⟩ := by
  unfold World.cell?
  simp only [h]
/-- An edge put into rows told by pairs. -/
theorem putR9 (n : Int) (g cap B m : Nat) (S : List (Nat × Nat)) (a b : Nat) (w : World) (h : Own w B (.slice (some ⟨g, 0, none⟩) m cap) (rowsF m (adjS S))) (hg : g < w.heap.size) (ha : a < m) (hb : b < m) (hl : m ≤ 62) :
    Calls Tryd.prog 62 #[.agg #[.int .i64 n, .slice (some ⟨g, 0, none⟩) m cap], .int .i64 a, .int .i64 b] w fun e w' => (∃ v, e = .returned v) ∧ Own w' B (.slice (some ⟨g, 0, none⟩) m cap) (rowsF m (adjS (S ++ [(a, b)]))) ∧ w.grownBy w' (some g) := by
  have := l01Put_some n g cap B m (rowsF m (adjS S)) a b w (rowsF_length _ _) h hg ha hb hl (fun i hi => rowsF_bd m _ i hi)
  rw [← rows_snoc m S a b ha hb]
  exact this

set_option maxHeartbeats 6400000 in
theorem renamed_some (b off cap b2 off2 cap2 : Nat) (zs ps : List Int) (w : World) (hb : b < w.heap.size) (hc : Cells w b off zs) (hb2 : b2 < w.heap.size) (hc2 : Cells w b2 off2 ps) (hg : isG zs.length zs = true) (hr : renB zs.length ps = true) :
    Calls Tryd.prog 80 #[.agg #[.int .i64 zs.length, .slice (some ⟨b, off, none⟩) zs.length cap], .slice (some ⟨b2, off2, none⟩) ps.length cap2] w fun e w' => ∃ u, e = .returned (.agg #[.int .i64 zs.length, u]) ∧ Own w' w.heap.size u (rowsF zs.length (adjS (imE zs ps))) ∧ Below w.heap.size w w' := by
  obtain ⟨h1a, h1b, -, -, -⟩ := isG_parts hg
  have hm62 : zs.length ≤ 62 := by omega
  obtain ⟨hpl, hpv⟩ := ren_parts hr
  have hpl' : ps.length = zs.length := by omega
  obtain ⟨W, hW⟩ : ∃ W, W = (w.alloc (.cells #[.int .i64 zs.length, .slice (some ⟨b, off, none⟩) zs.length cap] 26)).alloc (.cells #[.int .i64 0, .slice none 0 0] 26) := ⟨_, rfl⟩
  have D0 : Below w.heap.size w W := by rw [hW]; exact ((Below.refl _ _).alloc (Nat.le_refl _) _).alloc (by simp) _
  have hS : w.heap.size + 2 ≤ W.heap.size := by rw [hW]; simp
  have HK2 : Hid (W.heap[w.heap.size]? = some (.cells #[.int .i64 zs.length, .slice (some ⟨b, off, none⟩) zs.length cap] 26 (0, 0))) := by show _ = _; rw [hW]; exact heap_old_at (heap_new_at w _ w.heap.size rfl) _
  have HK3 : Hid (W.heap[w.heap.size + 1]? = some (.cells #[.int .i64 0, .slice none 0 0] 26 (0, 0))) := by show _ = _; rw [hW]; exact heap_new_at _ _ _ (by simp)
  have C1 := Lib.hid (hc.below D0 hb)
  have C2 := Lib.hid (hc2.below D0 hb2)
  have hemp := specEmpty_any zs.length W (by omega)
  have HZ := Lib.hid (isG_row_ok hg)
  have HPV := Lib.hid hpv
  have HIM := Lib.hid (im_same (ps := ps) hg)
  clear hc hc2 hg hr hpl hpv
  go_enter Tryd.func80, Tryd.ntmps80
  obtain ⟨a0, a1, -, -⟩ := two_cells HK2.out
  rw [hW] at a0 a1
  go_wp2_with fail
  rw [← hW]
  clear hW a0 a1
  refine hemp.mono ?_
  rintro e w2 ⟨rfl, hB2, hbW2⟩
  have l2 := hB2.lt
  obtain ⟨w3, h3⟩ : ∃ w3, w3 = w2.alloc (.cells #[.int .i64 zs.length, .slice (some ⟨W.heap.size + 1, 0, none⟩) zs.length zs.length] 26) := ⟨_, rfl⟩
  have X3 : Hid (w3.heap[w2.heap.size]? = some (.cells #[.int .i64 zs.length, .slice (some ⟨W.heap.size + 1, 0, none⟩) zs.length zs.length] 26 (0, 0))) := by show _ = _; rw [h3]; exact World.alloc_heap_new w2 _
  have O3 : Hid (Own w3 W.heap.size (.slice (some ⟨W.heap.size + 1, 0, none⟩) zs.length zs.length) (rowsF zs.length (adjS (imS ps (whereS (rbF zs) 0))))) := by
    have e : rowsF zs.length (adjS (imS ps (whereS (rbF zs) 0))) = List.replicate zs.length 0 := by rw [show adjS (imS ps (whereS (rbF zs) 0)) = fun _ _ => false from rfl, rowsF_none]
    have h := Own.of_blk (B := W.heap.size) (hB2.alloc (.cells #[.int .i64 zs.length, .slice (some ⟨W.heap.size + 1, 0, none⟩) zs.length zs.length] 26)) (by omega) (by rw [List.length_replicate]; unfold maxLen; omega)
    rw [List.length_replicate, ← h3] at h
    show Own _ _ _ _
    rw [e]
    exact h
  have E3 : Below W.heap.size W w3 := by rw [h3]; exact hbW2.alloc hbW2.size _
  have s3 : w2.heap.size < w3.heap.size := (Array.getElem?_eq_some_iff.1 X3.out).1
  clear hemp
  go_wp2_with fail
  rw [← h3]
  clear h3 hB2 hbW2
  go_loopw [6, 7] (fun t _ wr => ∃ i : Nat, i ≤ zs.length ∧ t = .int .i64 i ∧ Hid (Own wr W.heap.size (.slice (some ⟨W.heap.size + 1, 0, none⟩) zs.length zs.length) (rowsF zs.length (adjS (imS ps (whereS (rbF zs) i))))) ∧ Hid (wr.heap[w2.heap.size]? = some (.cells #[.int .i64 zs.length, .slice (some ⟨W.heap.size + 1, 0, none⟩) zs.length zs.length] 26 (0, 0))) ∧ Below W.heap.size W wr) (fun t _ _ => zs.length - (intOf t).toNat)
  case atStart => exact ⟨0, Nat.zero_le _, rfl, O3, X3, E3⟩
  case round =>
    clear O3 X3 E3
    obtain ⟨i, hi, rfl, HO, HX, hB⟩ := hrel
    obtain ⟨b0, b1, -, -⟩ := two_cells ((hB.block w.heap.size (by omega)).trans HK2.out)
    by_cases hlt : (i : Int) < zs.length
    · have hil : i < zs.length := by omega
      have hi0 : (0 : Int) ≤ i := by omega
      have hii : (i : Int) < ps.length := by omega
      go_wp2_with fail
      obtain ⟨wo, rfl⟩ : ∃ wo : World, wo = wr := ⟨_, rfl⟩
      have HOI : Hid (Own wo W.heap.size (.slice (some ⟨W.heap.size + 1, 0, none⟩) zs.length zs.length) (rowsF zs.length (adjS (imS ps (whereS (rbF zs) i ++ inS (rbF zs) i 0))))) := by show Own _ _ _ _; rw [show whereS (rbF zs) i ++ inS (rbF zs) i 0 = whereS (rbF zs) i by simp [inS]]; exact HO.out
      clear HO b0 b1
      go_loopw [7] (fun t wr => ∃ k : Nat, k ≤ i ∧ t = .int .i64 k ∧ Hid (Own wr W.heap.size (.slice (some ⟨W.heap.size + 1, 0, none⟩) zs.length zs.length) (rowsF zs.length (adjS (imS ps (whereS (rbF zs) i ++ inS (rbF zs) i k))))) ∧ Hid (wr.heap[w2.heap.size]? = some (.cells #[.int .i64 zs.length, .slice (some ⟨W.heap.size + 1, 0, none⟩) zs.length zs.length] 26 (0, 0))) ∧ Below W.heap.size W wr) (fun t _ => i - (intOf t).toNat)
      case atStart => exact ⟨0, Nat.zero_le _, rfl, HOI, HX, hB⟩
      case round =>
        clear HOI HX hB
        obtain ⟨k, hk, rfl, HO, HX, hB⟩ := hrel
        by_cases hki : (k : Int) < i
        · have hkl : k < zs.length := by omega
          have hk0 : (0 : Int) ≤ k := by omega
          have hkk : (k : Int) < ps.length := by omega
          have hBs := hB.size
          obtain ⟨b0, b1, -, -⟩ := two_cells ((hB.block w.heap.size (by omega)).trans HK2.out)
          have hcell : wr.cell? ⟨b, off + i, none⟩ = some (.int .i64 (el zs i)) := (C1.out.below hB (by omega)) i hil
          have hhas : ∀ (r : Bool), bt (el zs i) k = r → Calls Tryd.prog 66 #[.agg #[.int .i64 zs.length, .slice (some ⟨b, off, none⟩) zs.length cap], .int .i64 i, .int .i64 k] wr fun e w' => e = .returned (.bool r) ∧ Below wr.heap.size wr w' := fun r h =>
            has_any zs.length b off zs.length cap (el zs i) i k wr (by omega) hcell (by omega) (by omega) (by omega) (by omega) (HZ.out i hil).1 (HZ.out i hil).2 r (by rw [Int.toNat_natCast]; exact h)
          cases hbit : bt (el zs i) k with
          | true =>
            have HHS := Lib.hid (hhas true hbit)
            have HNX : Hid (imS ps (whereS (rbF zs) i ++ inS (rbF zs) i (k + 1)) = imS ps (whereS (rbF zs) i ++ inS (rbF zs) i k) ++ [(pN ps i, pN ps k)]) := by show _ = _; rw [inS_yes (show rbF zs k i = true from hbit), ← List.append_assoc, imS_snoc]
            obtain ⟨e1, e2⟩ := HPV.out i (by omega)
            obtain ⟨f1, f2⟩ := HPV.out k (by omega)
            have hzi0 := (C2.out.below hB (by omega)) i (by omega)
            have hzk0 := (C2.out.below hB (by omega)) k (by omega)
            rw [e1] at hzi0
            rw [f1] at hzk0
            obtain ⟨pi, hpi⟩ : ∃ pi, pi = pN ps i := ⟨_, rfl⟩
            obtain ⟨pk, hpk⟩ : ∃ pk, pk = pN ps k := ⟨_, rfl⟩
            rw [← hpi] at hzi0 e2 HNX
            rw [← hpk] at hzk0 f2 HNX
            clear hhas hbit e1 f1 hpi hpk
            go_wp2_with (go_at_call 66; refine HHS.out.mono ?_; rintro e w5 ⟨rfl, hb5⟩)
            have HX5 := Lib.hid ((hb5.block w2.heap.size (Array.getElem?_eq_some_iff.1 HX.out).1).trans HX.out)
            have HO5 := Lib.hid (HO.out.below hb5)
            have HB5 := Lib.hid (hB.trans (hb5.mono hBs))
            have s5 := hb5.size
            have x5 := (Array.getElem?_eq_some_iff.1 HX5.out).1
            have hzi : w5.cell? ⟨b2, off2 + i, none⟩ = some (.int .i64 pi) := (hb5.cell (p := ⟨b2, off2 + i, none⟩) (by simp; omega)).trans hzi0
            have hzk : w5.cell? ⟨b2, off2 + k, none⟩ = some (.int .i64 pk) := (hb5.cell (p := ⟨b2, off2 + k, none⟩) (by simp; omega)).trans hzk0
            obtain ⟨x0, x1, -, -⟩ := two_cells HX5.out
            have HPUT : Hid (∀ X, Below w5.heap.size w5 X → Calls Tryd.prog 62 #[.agg #[.int .i64 zs.length, .slice (some ⟨W.heap.size + 1, 0, none⟩) zs.length zs.length], .int .i64 pi, .int .i64 pk] X fun e w' => (∃ v, e = .returned v) ∧ Own w' W.heap.size (.slice (some ⟨W.heap.size + 1, 0, none⟩) zs.length zs.length) (rowsF zs.length (adjS (imS ps (whereS (rbF zs) i ++ inS (rbF zs) i (k + 1))))) ∧ X.grownBy w' (some (W.heap.size + 1))) := fun X hX => by
              rw [HNX.out]
              exact putR9 zs.length (W.heap.size + 1) zs.length W.heap.size zs.length _ pi pk X (HO5.out.below hX) (by have := hX.size; omega) (by omega) (by omega) hm62
            clear hb5 hzi0 hzk0 b0 b1 HO HX hB HHS hcell
            go_region_held3 (fun w' => w'.cell? ⟨w2.heap.size, 0, none⟩ = some (.int .i64 zs.length) ∧ w'.cell? ⟨w2.heap.size, 1, none⟩ = some (.slice (some ⟨W.heap.size + 1, 0, none⟩) zs.length zs.length) ∧ w'.cell? ⟨b2, off2 + i, none⟩ = some (.int .i64 pi) ∧ w'.cell? ⟨b2, off2 + k, none⟩ = some (.int .i64 pk))
              (go_keep)
              (first | (go_at_call 62; refine (HPUT.out _ ((Below.refl _ _).drew)).mono ?_; rintro e w6 ⟨⟨v6, rfl⟩, hO6, hg6⟩; have hg6 : w5.grownBy w6 (some (W.heap.size + 1)) := grown_trans (grown_drew w5 _) hg6; have HX6 := Lib.hid ((hg6.block w2.heap.size x5 (by simp; omega)).trans HX5.out); obtain ⟨x0, x1, -, -⟩ := two_cells HX6.out; have hzi : w6.cell? ⟨b2, off2 + i, none⟩ = some (.int .i64 pi) := (cell_same9 (hg6.block b2 (by omega) (by simp; omega))).trans hzi; have hzk : w6.cell? ⟨b2, off2 + k, none⟩ = some (.int .i64 pk) := (cell_same9 (hg6.block b2 (by omega) (by simp; omega))).trans hzk))
            have HO6 := Lib.hid hO6
            have HB6 := Lib.hid (HB5.out.grown hg6 HB5.out.size (fun q e => by cases e; omega))
            clear hO6 hg6 hzi hzk x0 x1 HPUT
            go_wp2
            go_roundw
            case rel => exact ⟨k + 1, by omega, by go_num, HO6, HX6, HB6.out⟩
            case measure => simp [intOf]; omega
          | false =>
            have HHS := Lib.hid (hhas false hbit)
            have HO5 : Hid (Own wr W.heap.size (.slice (some ⟨W.heap.size + 1, 0, none⟩) zs.length zs.length) (rowsF zs.length (adjS (imS ps (whereS (rbF zs) i ++ inS (rbF zs) i (k + 1)))))) := by show Own _ _ _ _; rw [inS_no (show rbF zs k i = false from hbit)]; exact HO.out
            clear hhas hbit HO
            go_wp2_with (go_at_call 66; refine HHS.out.mono ?_; rintro e w5 ⟨rfl, hb5⟩)
            have HX6 := Lib.hid ((hb5.block w2.heap.size (Array.getElem?_eq_some_iff.1 HX.out).1).trans HX.out)
            have HO6 := Lib.hid (HO5.out.below hb5)
            have HB6 := Lib.hid (hB.trans (hb5.mono hBs))
            clear hb5 HO5 HX b0 b1 hB
            go_roundw
            case rel => exact ⟨k + 1, by omega, by go_num, HO6, HX6, HB6.out⟩
            case measure => simp [intOf]; omega
        · have hke : k = i := by omega
          have HO2 : Hid (Own wr W.heap.size (.slice (some ⟨W.heap.size + 1, 0, none⟩) zs.length zs.length) (rowsF zs.length (adjS (imS ps (whereS (rbF zs) (i + 1)))))) := by
            have h := HO.out
            rw [hke] at h
            exact h
          clear HO
          go_wp2_with fail
          go_roundw
          case rel => exact ⟨i + 1, by omega, by go_num, HO2, HX, hB⟩
          case measure => simp [intOf]; omega
    · have hie : i = zs.length := by omega
      have HOF : Hid (Own wr W.heap.size (.slice (some ⟨W.heap.size + 1, 0, none⟩) zs.length zs.length) (rowsF zs.length (adjS (imE zs ps)))) := by
        have h := HO.out
        rw [hie, HIM.out] at h
        exact h
      have RB := Lib.hid ((hB.block (w.heap.size + 1) (by omega)).trans HK3.out)
      obtain ⟨r0, r1, g0, g1⟩ := two_cells RB.out
      obtain ⟨x0, x1, -, -⟩ := two_cells HX.out
      have HDF := Lib.hid (D0.trans (hB.mono D0.size))
      subst hie
      clear HO hB
      go_wp2
      have hfin := two_set (a := .int .i64 zs.length) (b := .slice (some ⟨W.heap.size + 1, 0, none⟩) zs.length zs.length) RB.out
      have hgr : wr.grownBy ((wr.setCell ⟨w.heap.size + 1, 0, none⟩ (.int .i64 zs.length)).setCell ⟨w.heap.size + 1, 1, none⟩ (.slice (some ⟨W.heap.size + 1, 0, none⟩) zs.length zs.length)) (some (w.heap.size + 1)) := grown_set (grown_set ⟨rfl, rfl, rfl, Nat.le_refl _, fun _ _ _ => rfl⟩ _ 0 _) _ 1 _
      refine bodyPost_ret (v := .agg #[.int .i64 zs.length, .slice (some ⟨W.heap.size + 1, 0, none⟩) zs.length zs.length]) (results_cell_row (p := 4) (ty := 26) rfl _ _ (w.heap.size + 1) 26 _ (0, 0) _ rfl hfin Tryd.underlying26 rfl (by exact info27)) rfl ⟨_, rfl, ?_, ?_⟩
      · exact (HOF.out.kept hgr (.inr (by simp [Value.ownBlock]; omega))).base (by omega)
      · exact (HDF.out.setCell (p := ⟨w.heap.size + 1, 0, none⟩) (by simp) _).setCell (p := ⟨w.heap.size + 1, 1, none⟩) (by simp) _

set_option maxHeartbeats 1600000 in
theorem specRn_no (n : Int) (v v2 : Value) (zs : List Int) (w : World) (hs : Sl w v zs) (hl : zs.length ≤ 9223372036854775807) (hg : isG n zs = false) :
    Calls Tryd.prog 28 #[.agg #[.int .i64 n, v], v2] w fun e w' => GRes w.heap.size 0 [] 1 e w' ∧ Below w.heap.size w w' := by
  obtain ⟨W, hW⟩ : ∃ W, W = (w.alloc (.cells #[.int .i64 n, v] 26)).alloc (.cells #[.int .i64 0, .slice none 0 0] 26) := ⟨_, rfl⟩
  have D0 : Below w.heap.size w W := by rw [hW]; exact ((Below.refl _ _).alloc (Nat.le_refl _) _).alloc (by simp) _
  have hsz : w.heap.size + 2 ≤ W.heap.size := by rw [hW]; simp
  have HK0 : Hid (W.heap[w.heap.size]? = some (.cells #[.int .i64 n, v] 26 (0, 0))) := by show _ = _; rw [hW]; exact heap_old_at (heap_new_at w _ w.heap.size rfl) _
  have HR0 : Hid (W.heap[w.heap.size + 1]? = some (.cells #[.int .i64 0, .slice none 0 0] 26 (0, 0))) := by show _ = _; rw [hW]; exact heap_new_at _ _ _ (by simp)
  have HD0 := Lib.hid D0
  have his := l01Is_any n (v) zs W (hs.below D0) hl
  rw [hg] at his
  clear hs hg D0
  go_enter Tryd.func28, Tryd.ntmps28
  go_upto_region 1 with fail
  rw [← hW]
  clear hW
  obtain ⟨a0, a1, -, -⟩ := two_cells HK0.out
  go_wp2_with (go_at_call 78; refine his.mono ?_; rintro e w1 ⟨rfl, hb1⟩; have q1 := hb1.size; obtain ⟨a0, a1, -, -⟩ := two_cells ((hb1.block w.heap.size (by omega)).trans HK0.out); have HR1 := Lib.hid ((hb1.block (w.heap.size + 1) (by omega)).trans HR0.out); have HB1 := Lib.hid hb1; obtain ⟨r0, r1, g0, g1⟩ := two_cells HR1.out; clear hb1)
  have hfin := two_set (a := .int .i64 0) (b := .slice none 0 0) HR1.out
  refine bodyPost_ret (v := .tuple #[.agg #[.int .i64 0, .slice none 0 0], .int .i64 1]) (results_cell2 (p := 4) (u := 5) (ty := 26) rfl _ _ (w.heap.size + 1) 26 _ (0, 0) _ rfl hfin Tryd.underlying26 rfl (by exact info27)) rfl ⟨⟨_, rfl, Own.nil _ _⟩, ?_⟩
  exact ((HD0.out.trans (HB1.out.mono (by omega))).setCell (p := ⟨w.heap.size + 1, 0, none⟩) (by simp; try omega) _).setCell (p := ⟨w.heap.size + 1, 1, none⟩) (by simp; try omega) _

set_option maxHeartbeats 1600000 in
theorem specRn_bad (n : Nat) (v v2 : Value) (zs ps : List Int) (w : World) (hs : Sl w v zs) (hs2 : Sl w v2 ps) (hl : zs.length ≤ 9223372036854775807) (hl2 : ps.length ≤ 1048576) (hg : isG n zs = true) (hr : renB n ps = false) :
    Calls Tryd.prog 28 #[.agg #[.int .i64 n, v], v2] w fun e w' => GRes w.heap.size 0 [] 2 e w' ∧ Below w.heap.size w w' := by
  obtain ⟨h1a, h1b, -, -, -⟩ := isG_parts hg
  obtain ⟨W, hW⟩ : ∃ W, W = (w.alloc (.cells #[.int .i64 n, v] 26)).alloc (.cells #[.int .i64 0, .slice none 0 0] 26) := ⟨_, rfl⟩
  have D0 : Below w.heap.size w W := by rw [hW]; exact ((Below.refl _ _).alloc (Nat.le_refl _) _).alloc (by simp) _
  have hsz : w.heap.size + 2 ≤ W.heap.size := by rw [hW]; simp
  have HK0 : Hid (W.heap[w.heap.size]? = some (.cells #[.int .i64 n, v] 26 (0, 0))) := by show _ = _; rw [hW]; exact heap_old_at (heap_new_at w _ w.heap.size rfl) _
  have HR0 : Hid (W.heap[w.heap.size + 1]? = some (.cells #[.int .i64 0, .slice none 0 0] 26 (0, 0))) := by show _ = _; rw [hW]; exact heap_new_at _ _ _ (by simp)
  have HD0 := Lib.hid D0
  have his := l01Is_any n (v) zs W (hs.below D0) hl
  rw [hg] at his
  have HOR : Hid (∀ X, Below W.heap.size W X → Calls Tryd.prog 79 #[v2, .int .i64 n] X fun e w' => e = .returned (.bool false) ∧ Below X.heap.size X w') := fun X hX => by
    have h := order_any n v2 ps X ((hs2.below D0).below hX) hl2 (by omega) (by omega)
    rw [hr] at h
    exact h
  clear hs hs2 hg D0 hr
  go_enter Tryd.func28, Tryd.ntmps28
  go_upto_region 1 with fail
  rw [← hW]
  clear hW
  obtain ⟨a0, a1, -, -⟩ := two_cells HK0.out
  go_wp2_with (first | (go_at_call 78; refine his.mono ?_; rintro e w1 ⟨rfl, hb1⟩; have q1 := hb1.size; obtain ⟨a0, a1, -, -⟩ := two_cells ((hb1.block w.heap.size (by omega)).trans HK0.out); have HR1 := Lib.hid ((hb1.block (w.heap.size + 1) (by omega)).trans HR0.out); have HB1 := Lib.hid hb1; obtain ⟨r0, r1, g0, g1⟩ := two_cells HR1.out; clear hb1) | (go_at_call 79; refine (HOR.out _ HB1.out).mono ?_; rintro e w2 ⟨rfl, hb2⟩; have q2 := hb2.size; obtain ⟨a0, a1, -, -⟩ := two_cells ((hb2.block w.heap.size (by omega)).trans ((HB1.out.block w.heap.size (by omega)).trans HK0.out)); have HR2 := Lib.hid ((hb2.block (w.heap.size + 1) (by omega)).trans HR1.out); have HB2 := Lib.hid (HB1.out.trans (hb2.mono (by omega))); obtain ⟨r0, r1, g0, g1⟩ := two_cells HR2.out; clear hb2))
  have hfin := two_set (a := .int .i64 0) (b := .slice none 0 0) HR2.out
  refine bodyPost_ret (v := .tuple #[.agg #[.int .i64 0, .slice none 0 0], .int .i64 2]) (results_cell2 (p := 4) (u := 5) (ty := 26) rfl _ _ (w.heap.size + 1) 26 _ (0, 0) _ rfl hfin Tryd.underlying26 rfl (by exact info27)) rfl ⟨⟨_, rfl, Own.nil _ _⟩, ?_⟩
  exact ((HD0.out.trans (HB2.out.mono (by omega))).setCell (p := ⟨w.heap.size + 1, 0, none⟩) (by simp; try omega) _).setCell (p := ⟨w.heap.size + 1, 1, none⟩) (by simp; try omega) _

set_option maxHeartbeats 1600000 in
theorem specRn_yes (b off cap b2 off2 cap2 : Nat) (zs ps : List Int) (w : World) (hb : b < w.heap.size) (hc : Cells w b off zs) (hb2 : b2 < w.heap.size) (hc2 : Cells w b2 off2 ps) (hg : isG zs.length zs = true) (hr : renB zs.length ps = true) :
    Calls Tryd.prog 28 #[.agg #[.int .i64 zs.length, .slice (some ⟨b, off, none⟩) zs.length cap], .slice (some ⟨b2, off2, none⟩) ps.length cap2] w fun e w' => GRes w.heap.size zs.length (rowsF zs.length (adjS (imE zs ps))) 0 e w' ∧ Below w.heap.size w w' := by
  obtain ⟨h1a, h1b, -, -, -⟩ := isG_parts hg
  have hs : Sl w (.slice (some ⟨b, off, none⟩) zs.length cap) zs := .inr ⟨b, off, cap, rfl, hb, hc⟩
  have hl : zs.length ≤ 9223372036854775807 := by omega
  have hpl := (ren_parts hr).1
  obtain ⟨W, hW⟩ : ∃ W, W = (w.alloc (.cells #[.int .i64 zs.length, .slice (some ⟨b, off, none⟩) zs.length cap] 26)).alloc (.cells #[.int .i64 0, .slice none 0 0] 26) := ⟨_, rfl⟩
  have D0 : Below w.heap.size w W := by rw [hW]; exact ((Below.refl _ _).alloc (Nat.le_refl _) _).alloc (by simp) _
  have hsz : w.heap.size + 2 ≤ W.heap.size := by rw [hW]; simp
  have HK0 : Hid (W.heap[w.heap.size]? = some (.cells #[.int .i64 zs.length, .slice (some ⟨b, off, none⟩) zs.length cap] 26 (0, 0))) := by show _ = _; rw [hW]; exact heap_old_at (heap_new_at w _ w.heap.size rfl) _
  have HR0 : Hid (W.heap[w.heap.size + 1]? = some (.cells #[.int .i64 0, .slice none 0 0] 26 (0, 0))) := by show _ = _; rw [hW]; exact heap_new_at _ _ _ (by simp)
  have HD0 := Lib.hid D0
  have his := l01Is_any zs.length (.slice (some ⟨b, off, none⟩) zs.length cap) zs W (hs.below D0) hl
  rw [hg] at his
  have hc' := hc.below D0 hb
  have hc2' := hc2.below D0 hb2
  have HOR : Hid (∀ X, Below W.heap.size W X → Calls Tryd.prog 79 #[.slice (some ⟨b2, off2, none⟩) ps.length cap2, .int .i64 zs.length] X fun e w' => e = .returned (.bool true) ∧ Below X.heap.size X w') := fun X hX => by
    have h := order_any zs.length (.slice (some ⟨b2, off2, none⟩) ps.length cap2) ps X (.inr ⟨b2, off2, cap2, rfl, by have := hX.size; omega, hc2'.below hX (by omega)⟩) (by omega) (by omega) (by omega)
    rw [hr] at h
    exact h
  have HRD : Hid (∀ X, Below W.heap.size W X → Calls Tryd.prog 80 #[.agg #[.int .i64 zs.length, .slice (some ⟨b, off, none⟩) zs.length cap], .slice (some ⟨b2, off2, none⟩) ps.length cap2] X fun e w' => ∃ u, e = .returned (.agg #[.int .i64 zs.length, u]) ∧ Own w' X.heap.size u (rowsF zs.length (adjS (imE zs ps))) ∧ Below X.heap.size X w') := fun X hX =>
    renamed_some b off cap b2 off2 cap2 zs ps X (by have := hX.size; omega) (hc'.below hX (by omega)) (by have := hX.size; omega) (hc2'.below hX (by omega)) hg hr
  clear hs hg D0 hr hc hc2 hc' hc2' hpl
  go_enter Tryd.func28, Tryd.ntmps28
  go_upto_region 1 with fail
  rw [← hW]
  clear hW
  obtain ⟨a0, a1, -, -⟩ := two_cells HK0.out
  go_wp2_with (first | (go_at_call 78; refine his.mono ?_; rintro e w1 ⟨rfl, hb1⟩; have q1 := hb1.size; obtain ⟨a0, a1, -, -⟩ := two_cells ((hb1.block w.heap.size (by omega)).trans HK0.out); have HR1 := Lib.hid ((hb1.block (w.heap.size + 1) (by omega)).trans HR0.out); have HB1 := Lib.hid hb1; obtain ⟨r0, r1, g0, g1⟩ := two_cells HR1.out; clear hb1) | (go_at_call 79; refine (HOR.out _ HB1.out).mono ?_; rintro e w2 ⟨rfl, hb2⟩; have q2 := hb2.size; obtain ⟨a0, a1, -, -⟩ := two_cells ((hb2.block w.heap.size (by omega)).trans ((HB1.out.block w.heap.size (by omega)).trans HK0.out)); have HR2 := Lib.hid ((hb2.block (w.heap.size + 1) (by omega)).trans HR1.out); have HB2 := Lib.hid (HB1.out.trans (hb2.mono (by omega))); obtain ⟨r0, r1, g0, g1⟩ := two_cells HR2.out; clear hb2) | (go_at_call 80; refine (HRD.out _ HB2.out).mono ?_; rintro e w3 ⟨u, rfl, hO, hb3⟩; obtain ⟨ua, ul, uc, rfl⟩ := slice_of hO; have HO := Lib.hid hO; have HR3 := Lib.hid ((hb3.block (w.heap.size + 1) (by omega)).trans HR2.out); have HB3 := Lib.hid (HB2.out.trans (hb3.mono (by omega))); obtain ⟨r0, r1, g0, g1⟩ := two_cells HR3.out; clear hO hb3))
  have hfin := two_set (a := .int .i64 zs.length) (b := .slice ua ul uc) HR3.out
  refine bodyPost_ret (v := .tuple #[.agg #[.int .i64 zs.length, .slice ua ul uc], .int .i64 0]) (results_cell2 (p := 4) (u := 5) (ty := 26) rfl _ _ (w.heap.size + 1) 26 _ (0, 0) _ rfl hfin Tryd.underlying26 rfl (by exact info27)) rfl ⟨⟨_, rfl, ?_⟩, ?_⟩
  · have hne : (Value.slice ua ul uc).ownBlock ≠ some (w.heap.size + 1) := fun e => by have := HO.out.ge _ e; omega
    exact (HO.out.base (by omega)).kept (grown_set (grown_set ⟨rfl, rfl, rfl, Nat.le_refl _, fun _ _ _ => rfl⟩ _ 0 _) _ 1 _) (.inr hne)
  · exact ((HD0.out.trans (HB3.out.mono (by omega))).setCell (p := ⟨w.heap.size + 1, 0, none⟩) (by simp) _).setCell (p := ⟨w.heap.size + 1, 1, none⟩) (by simp) _

theorem specRn_any (n : Int) (v v2 : Value) (zs ps : List Int) (w : World) (hs : Sl w v zs) (hs2 : Sl w v2 ps) (hl : zs.length ≤ 9223372036854775807) (hl2 : ps.length ≤ 1048576) :
    Calls Tryd.prog 28 #[.agg #[.int .i64 n, v], v2] w fun e w' => GRes w.heap.size (rnN n zs ps) (rnD n zs ps) (rnC n zs ps) e w' ∧ Below w.heap.size w w' := by
  unfold rnN rnD rnC rnOk
  cases hg : isG n zs with
  | false => exact specRn_no n v v2 zs w hs hl hg
  | true =>
    obtain ⟨h1, _, h3, _⟩ := isG_parts hg
    obtain ⟨b, off, cap, rfl, hb, hc⟩ := sl_some hs (by omega)
    obtain rfl : (zs.length : Int) = n := h3
    cases hr : renB zs.length ps with
    | false => exact specRn_bad zs.length _ v2 zs ps w hs hs2 hl hl2 hg hr
    | true =>
      have hpl := (ren_parts hr).1
      obtain ⟨b2, off2, cap2, rfl, hb2, hc2⟩ := sl_some hs2 (by omega)
      exact specRn_yes b off cap b2 off2 cap2 zs ps w hb hc hb2 hc2 hg hr
end Go.Proofs.YtabkfihhfkmioaaDoor
