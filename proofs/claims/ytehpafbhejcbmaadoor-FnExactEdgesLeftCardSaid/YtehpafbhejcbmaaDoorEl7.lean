/-
  impl.EdgesLeft, spec.EdgesLeft.
-/
import Derived.Test.YtehpafbhejcbmaaDoorDegI
namespace Go.Proofs.YtehpafbhejcbmaaDoor
set_option maxRecDepth 100000
set_option maxRecDepth 100000
open Go.RowKit

/-- The edges that the first v vertices lack, each counted at both ends. -/
def elS (zs : List Int) (k : Int) : Nat → Int
  | 0 => 0
  | v + 1 => elS zs k v + (k - dg zs v)
def elB (zs : List Int) (k : Int) (v : Nat) : Bool := (List.range v).all fun i => decide ((dg zs i : Int) ≤ k)
def kDeg (k : Int) : Bool := decide (1 ≤ k) && decide (k ≤ 6)
def ElC (n : Int) (zs : List Int) (k : Int) : Int := if isG n zs then if kDeg k then if elB zs k zs.length then 0 else 5 else 2 else 1
def ElN (n : Int) (zs : List Int) (k : Int) : Int := if isG n zs then if kDeg k then if elB zs k zs.length then elS zs k zs.length / 2 else 0 else 0 else 0
theorem elB_succ {zs : List Int} {k : Int} {v : Nat} : elB zs k (v + 1) = (elB zs k v && decide ((dg zs v : Int) ≤ k)) := by
  unfold elB; rw [List.range_succ, List.all_append]; simp
theorem elB_no {zs : List Int} {k : Int} {v m : Nat} (hv : v < m) (h : k < (dg zs v : Int)) : elB zs k m = false := by
  cases hb : elB zs k m with
  | false => rfl
  | true =>
    unfold elB at hb
    rw [List.all_eq_true] at hb
    have := hb v (List.mem_range.2 hv)
    simp at this
    omega
theorem elS_bd {zs : List Int} {k : Int} (h6 : k ≤ 6) : ∀ v, elB zs k v = true → 0 ≤ elS zs k v ∧ elS zs k v ≤ 6 * v
  | 0, _ => ⟨Int.le_refl _, Int.le_refl _⟩
  | v + 1, h => by
    rw [elB_succ, Bool.and_eq_true] at h
    have h1 := elS_bd h6 v h.1
    have h2 : (dg zs v : Int) ≤ k := by simpa using h.2
    show 0 ≤ elS zs k v + (k - dg zs v) ∧ elS zs k v + (k - dg zs v) ≤ 6 * ((v + 1 : Nat) : Int)
    omega
theorem own_cell7 {w : World} {B g cap : Nat} {L : List Int} (h : Own w B (.slice (some ⟨g, 0, none⟩) L.length cap) L) (i : Nat) (hi : i < L.length) : w.cell? ⟨g, i, none⟩ = some (.int .i64 (el L i)) :=
  (World.ownsRow.cellAt h i (by simpa using hi)).trans (map_at L i hi)
theorem own_some7 {w : World} {B : Nat} {u : Value} {L : List Int} {m : Nat} (h : Own w B u L) (hl : L.length = m) (hm : 0 < m) : ∃ g cap, u = .slice (some ⟨g, 0, none⟩) m cap ∧ B ≤ g ∧ g < w.heap.size := by
  subst hl
  rcases h.form with ⟨_, h0⟩ | ⟨g, cap, h1, h2, h3⟩
  · rw [h0] at hm; cases hm
  · exact ⟨g, cap, h1, h2, h3⟩

theorem isDeg_any (k : Int) (w : World) : Calls Tryd.prog 53 #[.int .i64 k] w fun e w' => e = .returned (.bool (kDeg k)) ∧ w = w' := by
  by_cases h : 1 ≤ k
  · have h2 : kDeg k = decide (k ≤ 6) := by unfold kDeg; rw [decide_eq_true h]; rfl
    rw [h2]; clear h2
    have h' : decide (1 ≤ k) = true := by simpa using h
    go_enter Tryd.func53, Tryd.ntmps53
    go_wp2
    go_ret
    exact ⟨rfl, rfl⟩
  · have h' : decide (1 ≤ k) = false := by simpa using h
    have h2 : kDeg k = false := by unfold kDeg; rw [h']; rfl
    rw [h2]; clear h2
    go_enter Tryd.func53, Tryd.ntmps53
    go_wp2
    go_ret
    exact ⟨rfl, rfl⟩

set_option maxHeartbeats 1600000 in
theorem implEl_yes (b off cap : Nat) (zs : List Int) (k : Int) (w : World) (hb : b < w.heap.size) (hc : Cells w b off zs) (hg : isG zs.length zs = true) (hk : kDeg k = true) (hT : Tab w) :
    Calls Tryd.prog 27 #[.agg #[.int .i64 zs.length, .slice (some ⟨b, off, none⟩) zs.length cap], .int .i64 k] w fun e w' => e = .returned (.tuple #[.int .i64 (ElN zs.length zs k), .int .i64 (ElC zs.length zs k)]) ∧ Below w.heap.size w w' := by
  obtain ⟨h1a, h1b, h3, -, -⟩ := isG_parts hg
  have D0 : Below w.heap.size w (w.alloc (.cells #[.int .i64 zs.length, .slice (some ⟨b, off, none⟩) zs.length cap] 28)) := (Below.refl _ _).alloc (Nat.le_refl _) _
  have hdg := implDeg_yes zs.length b off cap zs _ (Nat.lt_of_lt_of_le hb D0.size) (hc.below D0 hb) hg (by omega) (hT.belowAll D0)
  have hid := fun W => isDeg_any k W
  rw [hk] at hid
  have hkk := hk
  unfold kDeg at hkk
  simp only [Bool.and_eq_true, decide_eq_true_eq] at hkk
  have HNO : Hid (∀ v, v < zs.length → k < (dg zs v : Int) → ElN zs.length zs k = 0 ∧ ElC zs.length zs k = 5) := fun v hv h => by
    have := elB_no hv h
    simp [ElN, ElC, hg, hk, this]
  have HYE : Hid (elB zs k zs.length = true → ElN zs.length zs k = elS zs k zs.length / 2 ∧ ElC zs.length zs k = 0) := fun h => by simp [ElN, ElC, hg, hk, h]
  generalize ElN zs.length zs k = N at HNO HYE ⊢
  generalize ElC zs.length zs k = C at HNO HYE ⊢
  clear hg hc hT hk
  go_enter Tryd.func27, Tryd.ntmps27
  go_wp2_with (first | (go_at_call 43; refine hdg.mono ?_; rintro e w1 ⟨⟨u, rfl, hO⟩, hb1⟩; obtain ⟨g, cp, rfl, hgB, hgl⟩ := own_some7 hO (degL_length _ _) (by omega)) | (go_at_call 53; refine (hid _).mono ?_; rintro e w' ⟨rfl, rfl⟩))
  have HO : Hid (Own w1 (w.heap.size + 1) (.slice (some ⟨g, 0, none⟩) (degL zs zs.length).length cp) (degL zs zs.length)) := by
    show Own _ _ _ _
    rw [degL_length]; have := hO; rw [World.size_alloc] at this; exact this
  have E1 := Lib.hid (D0.trans (hb1.mono (by simp)))
  clear hO hb1 hdg hid D0
  go_loopw [8, 10, 24] (fun s _ i wr => ∃ (v : Nat) (T : Int), v ≤ zs.length ∧ i = .int .i64 v ∧ s = .int .i64 T ∧ 0 ≤ T ∧ T ≤ 372 ∧ Hid (elS zs k v = T) ∧ Hid (elB zs k v = true) ∧ wr = w1) (fun _ _ i _ => zs.length - (intOf i).toNat)
  case atStart => exact ⟨0, 0, Nat.zero_le _, rfl, rfl, Int.le_refl _, by omega, rfl, rfl, rfl⟩
  case round =>
    obtain ⟨v, T, hv, rfl, rfl, hT0, hT1, HS, HB, rfl⟩ := hrel
    by_cases hlt : (v : Int) < zs.length
    · have hvl : v < zs.length := by omega
      have hcell := own_cell7 HO.out v (by rw [degL_length]; exact hvl)
      rw [el_degL zs _ v hvl] at hcell
      have hv0 : (0 : Int) ≤ v := by omega
      by_cases hd : k < (dg zs v : Int)
      · have H5 := Lib.hid (HNO.out v hvl hd)
        go_wp2
        go_ret2
        exact ⟨by rw [H5.out.1, H5.out.2]; rfl, E1.out⟩
      · have hB2 : elB zs k (v + 1) = true := by rw [elB_succ, HB.out]; simp; omega
        have hbd := elS_bd hkk.2 (v + 1) hB2
        have hS2 : elS zs k (v + 1) = T + (k - dg zs v) := by rw [← HS.out]; rfl
        rw [hS2] at hbd
        have HS2 := Lib.hid hS2
        have HB2 := Lib.hid hB2
        have hd0 : (0 : Int) ≤ (dg zs v : Int) := by omega
        clear hS2 hB2
        generalize (dg zs v : Int) = d at *
        go_wp2
        go_roundw
        case rel => exact ⟨v + 1, T + (k - d), by omega, by go_num, rfl, by omega, by omega, HS2, HB2, trivial⟩
        case measure => simp [intOf]; omega
    · have hvl : v = zs.length := by omega
      subst hvl
      have H0 := Lib.hid (HYE.out HB.out)
      go_wp2
      go_ret2
      exact ⟨by rw [H0.out.1, H0.out.2, HS.out]; rfl, E1.out⟩

set_option maxHeartbeats 800000 in
theorem implEl_far (n : Int) (b off cap : Nat) (zs : List Int) (k : Int) (w : World) (hb : b < w.heap.size) (hc : Cells w b off zs) (hg : isG n zs = true) (hk : kDeg k = false) (hl : zs.length ≤ 9223372036854775807) (hT : Tab w) :
    Calls Tryd.prog 27 #[.agg #[.int .i64 n, .slice (some ⟨b, off, none⟩) zs.length cap], .int .i64 k] w fun e w' => e = .returned (.tuple #[.int .i64 0, .int .i64 2]) ∧ Below w.heap.size w w' := by
  have D0 : Below w.heap.size w (w.alloc (.cells #[.int .i64 n, .slice (some ⟨b, off, none⟩) zs.length cap] 28)) := (Below.refl _ _).alloc (Nat.le_refl _) _
  have hdg := implDeg_yes n b off cap zs _ (Nat.lt_of_lt_of_le hb D0.size) (hc.below D0 hb) hg hl (hT.belowAll D0)
  have hid := fun W => isDeg_any k W
  rw [hk] at hid
  clear hg hc hT hk
  go_enter Tryd.func27, Tryd.ntmps27
  go_wp2_with (first | (go_at_call 43; refine hdg.mono ?_; rintro e w1 ⟨⟨u, rfl, hO⟩, hb1⟩) | (go_at_call 53; refine (hid _).mono ?_; rintro e w' ⟨rfl, rfl⟩))
  have E1 := D0.trans (hb1.mono (by simp))
  go_ret2
  exact ⟨rfl, E1⟩

set_option maxHeartbeats 800000 in
theorem implEl_no (n : Int) (v : Value) (zs : List Int) (k : Int) (w : World) (h : Sl w v zs) (hg : isG n zs = false) (hl : zs.length ≤ 9223372036854775807) (hT : Tab w) :
    Calls Tryd.prog 27 #[.agg #[.int .i64 n, v], .int .i64 k] w fun e w' => e = .returned (.tuple #[.int .i64 0, .int .i64 1]) ∧ Below w.heap.size w w' := by
  have D0 : Below w.heap.size w (w.alloc (.cells #[.int .i64 n, v] 28)) := (Below.refl _ _).alloc (Nat.le_refl _) _
  have hdg := implDeg_no n v zs _ (h.below D0) hg hl (hT.belowAll D0)
  clear hg h hT
  go_enter Tryd.func27, Tryd.ntmps27
  go_wp2_with (go_at_call 43; refine hdg.mono ?_; rintro e w1 ⟨⟨u, rfl, hO⟩, hb1⟩)
  have E1 := D0.trans (hb1.mono (by simp))
  go_ret2
  exact ⟨rfl, E1⟩

theorem implEl_any (n : Int) (v : Value) (zs : List Int) (k : Int) (w : World) (h : Sl w v zs) (hl : zs.length ≤ 9223372036854775807) (hT : Tab w) :
    Calls Tryd.prog 27 #[.agg #[.int .i64 n, v], .int .i64 k] w fun e w' => e = .returned (.tuple #[.int .i64 (ElN n zs k), .int .i64 (ElC n zs k)]) ∧ Below w.heap.size w w' := by
  cases hg : isG n zs
  · rw [show ElN n zs k = 0 by simp [ElN, hg], show ElC n zs k = 1 by simp [ElC, hg]]
    exact implEl_no n v zs k w h hg hl hT
  · obtain ⟨h1, _, h3, _⟩ := isG_parts hg
    obtain ⟨b, off, cap, rfl, hb, hc⟩ := sl_some h (by omega)
    cases hk : kDeg k
    · rw [show ElN n zs k = 0 by simp [ElN, hk], show ElC n zs k = 2 by simp [ElC, hg, hk]]
      exact implEl_far n b off cap zs k w hb hc hg hk hl hT
    · obtain rfl : (zs.length : Int) = n := h3
      exact implEl_yes b off cap zs k w hb hc hg hk hT

set_option maxHeartbeats 1600000 in
theorem specEl_yes (b off cap : Nat) (zs : List Int) (k : Int) (w : World) (hb : b < w.heap.size) (hc : Cells w b off zs) (hg : isG zs.length zs = true) (hk : kDeg k = true) :
    Calls Tryd.prog 26 #[.agg #[.int .i64 zs.length, .slice (some ⟨b, off, none⟩) zs.length cap], .int .i64 k] w fun e w' => e = .returned (.tuple #[.int .i64 (ElN zs.length zs k), .int .i64 (ElC zs.length zs k)]) ∧ Below w.heap.size w w' := by
  obtain ⟨h1a, h1b, h3, -, -⟩ := isG_parts hg
  have D0 : Below w.heap.size w (w.alloc (.cells #[.int .i64 zs.length, .slice (some ⟨b, off, none⟩) zs.length cap] 28)) := (Below.refl _ _).alloc (Nat.le_refl _) _
  have his := l01Is_some zs.length b off cap zs _ (Nat.lt_of_lt_of_le hb D0.size) (hc.below D0 hb) (by omega)
  rw [hg] at his
  have hin : ∀ W, Calls Tryd.prog 51 #[.int .i64 k, .int .i64 1, .int .i64 6] W fun e w' => e = .returned (.bool true) ∧ W = w' := fun W => by
    have h := in_any k 1 6 W
    rw [show (decide (1 ≤ k) && decide (k ≤ 6)) = true from hk] at h
    exact h
  have hkk := hk
  unfold kDeg at hkk
  simp only [Bool.and_eq_true, decide_eq_true_eq] at hkk
  have HNO : Hid (∀ v, v < zs.length → k < (dg zs v : Int) → ElN zs.length zs k = 0 ∧ ElC zs.length zs k = 5) := fun v hv h => by
    have := elB_no hv h
    simp [ElN, ElC, hg, hk, this]
  have HYE : Hid (elB zs k zs.length = true → ElN zs.length zs k = elS zs k zs.length / 2 ∧ ElC zs.length zs k = 0) := fun h => by simp [ElN, ElC, hg, hk, h]
  generalize ElN zs.length zs k = N at HNO HYE ⊢
  generalize ElC zs.length zs k = C at HNO HYE ⊢
  have HG0 := Lib.hid (GBox.new (n := zs.length) (cap := cap) hb hc)
  have HZ := Lib.hid (isG_row_ok hg)
  clear hg hc hk
  go_enter Tryd.func26, Tryd.ntmps26
  go_wp2_with (first | (go_at_call 29; refine his.mono ?_; rintro e w1 ⟨rfl, hb1⟩; have G1 := HG0.out.below (hb1.mono (by simp)); have b0 := G1.b0; have b1 := G1.b1) | (go_at_call 51; refine (hin _).mono ?_; rintro e w' ⟨rfl, rfl⟩))
  have E1 : Below (w.heap.size + 1) (w.alloc (.cells #[.int .i64 zs.length, .slice (some ⟨b, off, none⟩) zs.length cap] 28)) w1 := hb1.mono (by simp)
  clear hb1 his hin
  go_loopw [6, 7] (fun s i wr => ∃ (v : Nat) (T : Int), v ≤ zs.length ∧ i = .int .i64 v ∧ s = .int .i64 T ∧ 0 ≤ T ∧ T ≤ 372 ∧ Hid (elS zs k v = T) ∧ Hid (elB zs k v = true) ∧ Below (w.heap.size + 1) (w.alloc (.cells #[.int .i64 zs.length, .slice (some ⟨b, off, none⟩) zs.length cap] 28)) wr) (fun _ i _ => zs.length - (intOf i).toNat)
  case atStart => exact ⟨0, 0, Nat.zero_le _, rfl, rfl, Int.le_refl _, by omega, rfl, rfl, E1⟩
  case round =>
    obtain ⟨v, T, hv, rfl, rfl, hT0, hT1, HS, HB, hB⟩ := hrel
    clear b0 b1 G1
    have G0 := HG0.out.below hB
    have b0 := G0.b0
    have b1 := G0.b1
    by_cases hlt : (v : Int) < zs.length
    · have hvl : v < zs.length := by omega
      have hv0 : (0 : Int) ≤ v := by omega
      have hdr : ∀ W, Below wr.heap.size wr W → Calls Tryd.prog 52 #[.agg #[.int .i64 zs.length, .slice (some ⟨b, off, none⟩) zs.length cap], .int .i64 v] W fun e w' => e = .returned (.int .i64 (dg zs v)) ∧ Below W.heap.size W w' := fun W hW => by
        have G := HG0.out.below (hB.trans (hW.mono G0.lt))
        have h := degree_rows zs.length b off cap zs v W G.lb G.cells hv0 hlt HZ.out
        rw [Int.toNat_natCast] at h
        exact h
      by_cases hd : k < (dg zs v : Int)
      · have H5 := Lib.hid (HNO.out v hvl hd)
        go_wp2_with (go_at_call 52; refine (hdr _ (Below.refl _ _)).mono ?_; rintro e w2 ⟨rfl, hb2⟩)
        have E := D0.trans ((hB.trans (hb2.mono G0.lt)).mono (by simp))
        go_ret2
        exact ⟨by rw [H5.out.1, H5.out.2]; rfl, E⟩
      · have hB2 : elB zs k (v + 1) = true := by rw [elB_succ, HB.out]; simp; omega
        have hbd := elS_bd hkk.2 (v + 1) hB2
        have hS2 : elS zs k (v + 1) = T + k - dg zs v := by rw [← HS.out]; show _ + (_ - _) = _; omega
        rw [hS2] at hbd
        have HS2 := Lib.hid hS2
        have HB2 := Lib.hid hB2
        have hd0 : (0 : Int) ≤ (dg zs v : Int) := by omega
        clear hS2 hB2
        generalize (dg zs v : Int) = d at *
        go_wp2_with (first | (go_at_call 52; refine (hdr _ (Below.refl _ _)).mono ?_; rintro e w2 ⟨rfl, hb2⟩; have G2 := G0.below (hb2.mono G0.lt); have b0 := G2.b0; have b1 := G2.b1; have l2 := G2.lt) | (go_at_call 52; refine (hdr _ hb2).mono ?_; rintro e w3 ⟨rfl, hb3⟩; have B3 := hB.trans ((hb2.mono G0.lt).trans (hb3.mono l2))))
        go_roundw
        case rel => exact ⟨v + 1, T + k - d, by omega, by go_num, rfl, by omega, by omega, HS2, HB2, B3⟩
        case measure => simp [intOf]; omega
    · have hvl : v = zs.length := by omega
      subst hvl
      have H0 := Lib.hid (HYE.out HB.out)
      have E := D0.trans (hB.mono (by simp))
      go_wp2
      go_ret2
      exact ⟨by rw [H0.out.1, H0.out.2, HS.out]; rfl, E⟩

set_option maxHeartbeats 800000 in
theorem specEl_far (n : Int) (b off cap : Nat) (zs : List Int) (k : Int) (w : World) (hb : b < w.heap.size) (hc : Cells w b off zs) (hg : isG n zs = true) (hk : kDeg k = false) (hl : zs.length ≤ 9223372036854775807) :
    Calls Tryd.prog 26 #[.agg #[.int .i64 n, .slice (some ⟨b, off, none⟩) zs.length cap], .int .i64 k] w fun e w' => e = .returned (.tuple #[.int .i64 0, .int .i64 2]) ∧ Below w.heap.size w w' := by
  have D0 : Below w.heap.size w (w.alloc (.cells #[.int .i64 n, .slice (some ⟨b, off, none⟩) zs.length cap] 28)) := (Below.refl _ _).alloc (Nat.le_refl _) _
  have his := l01Is_some n b off cap zs _ (Nat.lt_of_lt_of_le hb D0.size) (hc.below D0 hb) hl
  rw [hg] at his
  have hin : ∀ W, Calls Tryd.prog 51 #[.int .i64 k, .int .i64 1, .int .i64 6] W fun e w' => e = .returned (.bool false) ∧ W = w' := fun W => by
    have h := in_any k 1 6 W
    rw [show (decide (1 ≤ k) && decide (k ≤ 6)) = false from hk] at h
    exact h
  clear hg hc hk
  go_enter Tryd.func26, Tryd.ntmps26
  go_wp2_with (first | (go_at_call 29; refine his.mono ?_; rintro e w1 ⟨rfl, hb1⟩) | (go_at_call 51; refine (hin _).mono ?_; rintro e w' ⟨rfl, rfl⟩))
  have E1 := D0.trans (hb1.mono (by simp))
  go_ret2
  exact ⟨rfl, E1⟩

set_option maxHeartbeats 800000 in
theorem specEl_no (n : Int) (v : Value) (zs : List Int) (k : Int) (w : World) (h : Sl w v zs) (hg : isG n zs = false) (hl : zs.length ≤ 9223372036854775807) :
    Calls Tryd.prog 26 #[.agg #[.int .i64 n, v], .int .i64 k] w fun e w' => e = .returned (.tuple #[.int .i64 0, .int .i64 1]) ∧ Below w.heap.size w w' := by
  have D0 : Below w.heap.size w (w.alloc (.cells #[.int .i64 n, v] 28)) := (Below.refl _ _).alloc (Nat.le_refl _) _
  have his := l01Is_any n v zs _ (h.below D0) hl
  rw [hg] at his
  clear hg h
  go_enter Tryd.func26, Tryd.ntmps26
  go_wp2_with (go_at_call 29; refine his.mono ?_; rintro e w1 ⟨rfl, hb1⟩)
  have E1 := D0.trans (hb1.mono (by simp))
  go_ret2
  exact ⟨rfl, E1⟩

theorem specEl_any (n : Int) (v : Value) (zs : List Int) (k : Int) (w : World) (h : Sl w v zs) (hl : zs.length ≤ 9223372036854775807) :
    Calls Tryd.prog 26 #[.agg #[.int .i64 n, v], .int .i64 k] w fun e w' => e = .returned (.tuple #[.int .i64 (ElN n zs k), .int .i64 (ElC n zs k)]) ∧ Below w.heap.size w w' := by
  cases hg : isG n zs
  · rw [show ElN n zs k = 0 by simp [ElN, hg], show ElC n zs k = 1 by simp [ElC, hg]]
    exact specEl_no n v zs k w h hg hl
  · obtain ⟨h1, _, h3, _⟩ := isG_parts hg
    obtain ⟨b, off, cap, rfl, hb, hc⟩ := sl_some h (by omega)
    cases hk : kDeg k
    · rw [show ElN n zs k = 0 by simp [ElN, hk], show ElC n zs k = 2 by simp [ElC, hg, hk]]
      exact specEl_far n b off cap zs k w hb hc hg hk hl
    · obtain rfl : (zs.length : Int) = n := h3
      exact specEl_yes b off cap zs k w hb hc hg hk
end Go.Proofs.YtehpafbhejcbmaaDoor
