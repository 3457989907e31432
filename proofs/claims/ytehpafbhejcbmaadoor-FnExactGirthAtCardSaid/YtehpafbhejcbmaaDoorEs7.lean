/-
  spec.l01Edges, spec.EdgesOf.
-/
import Derived.Test.YtehpafbhejcbmaaDoorEo7
namespace Go.Proofs.YtehpafbhejcbmaaDoor
set_option maxRecDepth 100000
set_option maxRecDepth 100000
open Go.RowKit

/-- The edges ahead of the pair v, w. -/
def edW (zs : List Int) (v w : Nat) : List (Nat × Nat) := edP zs v ++ ((List.range w).filter fun y => decide (v < y) && bt (el zs v) y).map fun y => (v, y)
theorem edW_start (zs : List Int) (v : Nat) : edW zs v (v + 1) = edP zs v := by
  unfold edW
  rw [show (List.range (v + 1)).filter (fun y => decide (v < y) && bt (el zs v) y) = [] from List.filter_eq_nil_iff.2 fun y hy => by
    have := List.mem_range.1 hy
    simp; omega]
  simp
theorem edW_yes {zs : List Int} {v w : Nat} (h : v < w) (hb : bt (el zs v) w = true) : edW zs v (w + 1) = edW zs v w ++ [(v, w)] := by
  unfold edW; rw [List.range_succ, List.filter_append]; simp [h, hb]
theorem edW_no {zs : List Int} {v w : Nat} (hb : bt (el zs v) w = false) : edW zs v (w + 1) = edW zs v w := by
  unfold edW; rw [List.range_succ, List.filter_append]; simp [hb]
theorem filter_end {p : Nat → Bool} {n : Nat} (h : ∀ y, n ≤ y → p y = false) : ∀ m, n ≤ m → (List.range m).filter p = (List.range n).filter p := by
  intro m hm
  induction m with
  | zero => obtain rfl : n = 0 := (by omega); rfl
  | succ m ih =>
    by_cases e : n ≤ m
    · rw [List.range_succ, List.filter_append, ih e]; simp [h m e]
    · obtain rfl : n = m + 1 := (by omega); rfl
theorem edW_end {zs : List Int} {v : Nat} (h62 : zs.length ≤ 62) (hz : (el zs v).toNat < 2 ^ zs.length) : edW zs v zs.length = edP zs (v + 1) := by
  rw [edP_succ]
  unfold edW
  congr 2
  unfold mem
  rw [filter_end (n := zs.length) (fun y hy => ?_) 64 (by omega)]
  · refine List.filter_congr fun y _ => ?_
    rw [hiN, anot_bit, low_bit]
    unfold bt
    rw [Bool.and_comm]
    congr 1
    rw [← decide_not]
    exact decide_eq_decide.2 ⟨fun h => by omega, fun h => by omega⟩
  · rw [hiN]
    exact Nat.testBit_lt_two_pow (Nat.lt_of_lt_of_le (anot_lt hz) (Nat.pow_le_pow_right (by decide) hy))
theorem edW_len {zs : List Int} {v w : Nat} (h62 : zs.length ≤ 62) (hv : v < zs.length) (hw : w ≤ 62) : (edW zs v w).length ≤ 4100 := by
  unfold edW
  rw [List.length_append, List.length_map]
  have h1 := edP_len zs h62 v
  have h2 := List.length_filter_le (fun y => decide (v < y) && bt (el zs v) y) (List.range w)
  rw [List.length_range] at h2
  omega

/-- What holds when a pair has been appended to a list of lists. -/
theorem ts_end {B : Nat} {W5 w8 : World} {x y : Int} {u l3 : Value} {Lp : List (List Int)} {cs : List Value} (hT : TSc W5 B u Lp cs) (hB5 : B ≤ W5.heap.size)
    (hown8 : w8.ownsRow B 22 1 l3 (Lp.length + 1) (cs ++ [.slice (some ⟨W5.heap.size, 0, none⟩) 2 2]))
    (hgr8 : ((W5.alloc (.cells #[.int .i64 x, .int .i64 y] 2)).alloc (.cells #[.slice (some ⟨W5.heap.size, 0, none⟩) 2 2] 22)).grownBy w8 u.ownBlock)
    (hloc : l3.ownBlock = u.ownBlock ∨ l3.ownBlock = some (W5.heap.size + 2)) :
    TS w8 B l3 (Lp ++ [[x, y]]) ∧ ∀ B0, B0 ≤ B → Below B0 W5 w8 := by
  obtain ⟨W6, hW6⟩ : ∃ W6, W6 = W5.alloc (.cells #[.int .i64 x, .int .i64 y] 2) := ⟨_, rfl⟩
  obtain ⟨W7, hW7⟩ : ∃ W7, W7 = W6.alloc (.cells #[.slice (some ⟨W5.heap.size, 0, none⟩) 2 2] 22) := ⟨_, rfl⟩
  have s6 : W6.heap.size = W5.heap.size + 1 := by rw [hW6]; simp
  have s7 : W7.heap.size = W5.heap.size + 2 := by rw [hW7]; simp [s6]
  have hO6 : Own W6 B (.slice (some ⟨W5.heap.size, 0, none⟩) 2 2) [x, y] := by
    rw [hW6]; exact Own.of_blk (Blk.new W5 [x, y]) hB5 (by unfold maxLen; simp)
  have B7 : Below W5.heap.size W5 W7 := by rw [hW7, hW6]; exact ((Below.refl _ _).alloc (Nat.le_refl _) _).alloc (by simp) _
  have hO7 : Own W7 B (.slice (some ⟨W5.heap.size, 0, none⟩) 2 2) [x, y] := by rw [hW7]; exact hO6.below ((Below.refl _ W6).alloc (Nat.le_refl _) _)
  rw [← hW6, ← hW7] at hgr8
  have hub : ∀ k, u.ownBlock = some k → B ≤ k ∧ k < W5.heap.size := fun k e => World.ownsRow.lt hT.1 k e
  refine ⟨(hT.below B7).snoc hO7 (.inr fun e => ?_) (fun e => by cases e) hown8 hgr8 (by rw [s7]; exact hloc), fun B0 h0 => (B7.mono (by omega)).grown hgr8 (by omega) (fun k e => by have := (hub k e).1; omega)⟩
  have := (hub W5.heap.size e.symm).2
  omega

set_option maxHeartbeats 3200000 in
theorem specEdges_some (b off cap : Nat) (zs : List Int) (w : World) (hb : b < w.heap.size) (hc : Cells w b off zs) (hg : isG zs.length zs = true) :
    Calls Tryd.prog 66 #[.agg #[.int .i64 zs.length, .slice (some ⟨b, off, none⟩) zs.length cap]] w fun e w' => (∃ u, e = .returned u ∧ TS w' w.heap.size u (EdLL zs)) ∧ Below w.heap.size w w' := by
  obtain ⟨p1, p2, p3, p4, -⟩ := isG_parts hg
  have hm62 : zs.length ≤ 62 := by omega
  have hz2 : ∀ i, i < zs.length → (el zs i).toNat < 2 ^ zs.length := fun i hi => by
    have q0 := (isG_row_ok hg i hi).1
    have q1 := rowOk_le (rowsOk_at p4 hi)
    rw [← p3, Int.toNat_natCast] at q1
    have e : ((2 : Int) ^ zs.length) = ((2 ^ zs.length : Nat) : Int) := by simp
    rw [e] at q1
    omega
  obtain ⟨Wz, hWz⟩ : ∃ Wz, Wz = (w.alloc (.cells #[.int .i64 zs.length, .slice (some ⟨b, off, none⟩) zs.length cap] 28)).alloc (.cells #[] 22) := ⟨_, rfl⟩
  have D0 : Below w.heap.size w Wz := by rw [hWz]; exact ((Below.refl _ _).alloc (Nat.le_refl _) _).alloc (by simp) _
  have hsz : w.heap.size + 2 ≤ Wz.heap.size := by rw [hWz]; simp
  have HG0 : Hid (Wz.heap[w.heap.size]? = some (.cells #[.int .i64 zs.length, .slice (some ⟨b, off, none⟩) zs.length cap] 28 (0, 0))) := by show _ = _; rw [hWz]; exact heap_old_at (World.alloc_heap_new w _) _
  have HT0 : Hid (TS Wz (w.heap.size + 1) (.slice (some ⟨w.heap.size + 1, 0, none⟩) 0 0) ((edP zs 0).map prI)) := by
    have := World.ownsRow_made (w.alloc (.cells #[.int .i64 zs.length, .slice (some ⟨b, off, none⟩) zs.length cap] 28)) #[] 0 (base := w.heap.size + 1) (e := 22) (size := 1) (by simp) (by decide) rfl
    rw [World.size_alloc, ← hWz] at this
    exact ⟨[], this, rfl, fun i h => by simp [edP] at h⟩
  obtain ⟨j0, hj, hy0, hy1, hy2⟩ := info_parts mkS_info
  have HJ := Lib.hid hj; have HJ0 := Lib.hid hy0; have HJ1 := Lib.hid hy1; have HJ2 := Lib.hid hy2
  have HCz := Lib.hid (hc.below D0 hb)
  have HD0 := Lib.hid D0
  have HZR := Lib.hid (isG_row_ok hg); have HZ2 := Lib.hid hz2
  clear hc hg D0 hj hy0 hy1 hy2 p3 p4 hz2
  go_enter Tryd.func66, Tryd.ntmps66
  go_wp2_with fail
  rw [← hWz]
  clear hWz
  go_loopw [3, 4] (fun u i wr => ∃ k : Nat, k ≤ zs.length ∧ i = .int .i64 k ∧ Hid (TS wr (w.heap.size + 1) u ((edP zs k).map prI)) ∧ Below (w.heap.size + 1) Wz wr) (fun _ i _ => zs.length - (intOf i).toNat)
  case atStart => exact ⟨0, Nat.zero_le _, rfl, HT0, Below.refl _ _⟩
  case round =>
    clear HT0
    obtain ⟨k, hk, rfl, HT, hE⟩ := hrel
    obtain ⟨b0, b1, -, -⟩ := two_cells ((hE.block w.heap.size (by omega)).trans HG0.out)
    by_cases hlt : (k : Int) < zs.length
    · have hkl : k < zs.length := by omega
      have hk0 : (0 : Int) ≤ k := by omega
      have HT1 : Hid (TS wr (w.heap.size + 1) u3 ((edW zs k (k + 1)).map prI)) := by show TS _ _ _ _; rw [edW_start]; exact HT.out
      go_wp2_with fail
      clear b0 b1 HT
      obtain ⟨wo, rfl⟩ : ∃ wo : World, wo = wr := ⟨_, rfl⟩
      go_loopw [3, 5] (fun u i wr => ∃ y : Nat, k < y ∧ y ≤ zs.length ∧ i = .int .i64 y ∧ Hid (TS wr (w.heap.size + 1) u ((edW zs k y).map prI)) ∧ Below (w.heap.size + 1) Wz wr) (fun _ i _ => zs.length - (intOf i).toNat)
      case atStart => exact ⟨k + 1, by omega, by omega, by go_num, HT1, hE⟩
      case round =>
        clear HT1 hE
        obtain ⟨y, hky, hy, rfl, HT, hE⟩ := hrel
        obtain ⟨b0, b1, -, -⟩ := two_cells ((hE.block w.heap.size (by omega)).trans HG0.out)
        have hs := hE.size
        by_cases hly : (y : Int) < zs.length
        · have hyl : y < zs.length := by omega
          have hy0 : (0 : Int) ≤ y := by omega
          have hhas := has_rows zs.length b off cap zs k y wr (by omega) (HCz.out.below hE (by omega)) hk0 hlt hy0 (by omega) HZR.out
          rw [Int.toNat_natCast, Int.toNat_natCast] at hhas
          cases hbt : bt (el zs k) y with
          | true =>
            have HNX := Lib.hid (edW_yes hky hbt)
            have hlen := edW_len (zs := zs) (v := k) (w := y) hm62 hkl (by omega)
            rw [hbt] at hhas
            have HHAS := Lib.hid hhas
            obtain ⟨cs, hT⟩ := HT.out
            have HTC := Lib.hid hT
            obtain ⟨Lp, hLp⟩ : ∃ Lp, Lp = (edW zs k y).map prI := ⟨_, rfl⟩
            have hLl : Lp.length ≤ 4100 := by rw [hLp, List.length_map]; exact hlen
            have HLP : Hid ((edW zs k (y + 1)).map prI = Lp ++ [[(k : Int), (y : Int)]]) := by show _ = _; rw [HNX.out, List.map_append, hLp]; rfl
            rw [← hLp] at HTC
            clear hT HT hLp hlen hhas hbt
            go_wp2_with (first
              | (go_at_call 54; refine HHAS.out.mono ?_; rintro e w2 ⟨rfl, hb2⟩; have HT2 := Lib.hid (HTC.out.below hb2); have hE2 := hE.trans (hb2.mono (by omega)); have s2 := hE2.size; have HTB : Hid (((w2.alloc (.cells #[.int .i64 k, .int .i64 y] 2)).alloc (.cells #[.slice (some ⟨w2.heap.size, 0, none⟩) 2 2] 22)).ownsRow (w.heap.size + 1) 22 1 u3 Lp.length cs) := World.ownsRow.alloc (World.ownsRow.alloc HT2.out.1 _) _; have HNC : Hid (∀ j q, [Value.slice (some ⟨w2.heap.size, 0, none⟩) 2 2][j]? = some q → ((w2.alloc (.cells #[.int .i64 k, .int .i64 y] 2)).alloc (.cells #[.slice (some ⟨w2.heap.size, 0, none⟩) 2 2] 22)).cell? ((⟨w2.heap.size + 1, 0, none⟩ : Addr).add j) = some q) := (by
                  have h := cell_one_new (w2.alloc (.cells #[.int .i64 k, .int .i64 y] 2)) (.slice (some ⟨w2.heap.size, 0, none⟩) 2 2) 22
                  rw [World.size_alloc] at h
                  exact h))
              | (at_builtin; refine wpList_append_own_at _ rfl (.tmp 25) (.tmp 29) 37 rfl (w.heap.size + 1) 22 j0 (.slice none 0 0) 1 24 Tryd.underlying37 HJ.out HJ0.out HJ1.out HJ2.out rfl (by decide) u3 Lp.length cs rfl HTB.out ⟨w2.heap.size + 1, 0, none⟩ 1 1 [.slice (some ⟨w2.heap.size, 0, none⟩) 2 2] rfl rfl HNC.out (by simp [Value.oneCell']) (by unfold maxLen; omega) (by omega) (by simp; omega) ?_; intro l3 w8 hown8 hgr8 _ hloc; obtain ⟨q1, q2⟩ := ts_end HT2.out (by omega) hown8 hgr8 (by simpa using hloc); have Q1 := Lib.hid q1; have Q2 := Lib.hid q2; clear q1 q2 hown8 hgr8 hloc))
            have HS3 : Hid (TS w8 (w.heap.size + 1) l3 ((edW zs k (y + 1)).map prI)) := by show TS _ _ _ _; rw [HLP.out]; exact Q1.out
            have hE8 := hE2.trans (Q2.out _ (Nat.le_refl _))
            go_roundw
            case rel => exact ⟨y + 1, by omega, by omega, by go_num, HS3, hE8⟩
            case measure => simp [intOf]; omega
          | false =>
            have HT1 : Hid (TS wr (w.heap.size + 1) u3 ((edW zs k (y + 1)).map prI)) := by show TS _ _ _ _; rw [edW_no hbt]; exact HT.out
            rw [hbt] at hhas
            have HHAS := Lib.hid hhas
            clear hhas hbt HT
            go_wp2_with (go_at_call 54; refine HHAS.out.mono ?_; rintro e w2 ⟨rfl, hb2⟩; have HT2 : Hid (TS w2 (w.heap.size + 1) u3 ((edW zs k (y + 1)).map prI)) := HT1.out.below hb2; have hE2 := hE.trans (hb2.mono (by omega)))
            go_roundw
            case rel => exact ⟨y + 1, by omega, by omega, by go_num, HT2, hE2⟩
            case measure => simp [intOf]; omega
        · obtain rfl : y = zs.length := by omega
          have HT1 : Hid (TS wr (w.heap.size + 1) u3 ((edP zs (k + 1)).map prI)) := by show TS _ _ _ _; rw [← edW_end hm62 (HZ2.out k hkl)]; exact HT.out
          clear HT
          go_wp2_with fail
          go_roundw
          case rel => exact ⟨k + 1, by omega, by go_num, HT1, hE⟩
          case measure => simp [intOf]; omega
    · obtain rfl : k = zs.length := by omega
      have HTF := Lib.hid (HT.out.base (show w.heap.size ≤ w.heap.size + 1 by omega))
      have hEF := HD0.out.trans (hE.mono (by omega))
      clear HT
      go_wp2_with fail
      go_ret
      exact ⟨⟨_, rfl, HTF.out⟩, hEF⟩

theorem eo_sizes (n : Int) (zs : List Int) : (EoL n zs).length ≤ 4000 ∧ ∀ i, i < (EoL n zs).length → (elS (EoL n zs) i).length ≤ 62 := by
  unfold EoL
  cases h : isG n zs with
  | true =>
    rw [if_pos rfl]
    obtain ⟨g1, g2, g3, -, -⟩ := isG_parts h
    have h1 := edP_len zs (by omega) zs.length
    refine ⟨by unfold EdLL edL; rw [List.length_map]; omega, fun i hi => ?_⟩
    unfold EdLL at hi ⊢
    rw [List.length_map] at hi
    have e : elS ((edL zs).map prI) i = prI ((edL zs)[i]) := by simp [elS, hi]
    rw [e]; simp [prI]
  | false => exact ⟨by simp, fun i hi => by simp at hi⟩
end Go.Proofs.YtehpafbhejcbmaaDoor
