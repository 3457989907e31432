/-
  spec.PairsToJoin, impl.PairsToJoin for all arguments.
-/
import Derived.Test.YtehpafbhejcbmaaDoorPi7
import Derived.Test.YtehpafbhejcbmaaDoorEs7
namespace Go.Proofs.YtehpafbhejcbmaaDoor
set_option maxRecDepth 100000
set_option maxRecDepth 100000
open Go.RowKit

set_option maxHeartbeats 3200000 in
theorem specPi_yes (b off cap : Nat) (zs : List Int) (K C : Int) (w : World) (hb : b < w.heap.size) (hc : Cells w b off zs) (hg : isG zs.length zs = true) (hkc : kcB K C = true) (hf : FbB zs K C = true) (hl : zs.length ≤ 9223372036854775807) (hs : Sl w (.slice (some ⟨b, off, none⟩) zs.length cap) zs) :
    Calls Tryd.prog 18 #[.agg #[.int .i64 zs.length, .slice (some ⟨b, off, none⟩) zs.length cap], .int .i64 K, .int .i64 C] w fun e w' => SRes w.heap.size (PjL zs K C) 0 e w' ∧ Below w.heap.size w w' := by
  obtain ⟨p1, p2, -, -, -⟩ := isG_parts hg
  have hm62 : zs.length ≤ 62 := by omega
  have hc63 : C ≤ 63 := by unfold kcB at hkc; simp only [Bool.and_eq_true, decide_eq_true_eq] at hkc; omega
  have D0 : Below w.heap.size w (w.alloc (.cells #[.int .i64 zs.length, .slice (some ⟨b, off, none⟩) zs.length cap] 28)) := (Below.refl _ _).alloc (Nat.le_refl _) _
  have hch := given_any zs.length (.slice (some ⟨b, off, none⟩) zs.length cap) zs K C _ (hs.below D0) hl
  unfold gvC at hch
  rw [hg, hkc, hf, if_pos rfl, if_pos rfl, if_pos rfl] at hch
  have HGA := Lib.hid (World.alloc_heap_new w (.cells #[.int .i64 zs.length, .slice (some ⟨b, off, none⟩) zs.length cap] 28))
  have HD0 := Lib.hid D0
  have HMYW : Hid (∀ W, Below w.heap.size w W → ∀ x y : Nat, x < zs.length → y < zs.length → x ≠ y → Calls Tryd.prog 46 #[.agg #[.int .i64 zs.length, .slice (some ⟨b, off, none⟩) zs.length cap], .int .i64 K, .int .i64 C, .int .i64 x, .int .i64 y] W fun e w' => e = .returned (.bool (mayB zs K C x y)) ∧ Below W.heap.size W w') := fun W h x y hx hy hxy => mayS_some b off cap zs x y K C W (Nat.lt_of_lt_of_le hb h.size) (hc.below h hb) hg hx hy hxy hc63
  obtain ⟨j0, hj, hy0, hy1, hy2⟩ := info_parts mkS_info
  have HJ := Lib.hid hj; have HJ0 := Lib.hid hy0; have HJ1 := Lib.hid hy1; have HJ2 := Lib.hid hy2
  clear hc hg hkc hf hs D0 hj hy0 hy1 hy2
  go_enter Tryd.func18, Tryd.ntmps18
  go_wp2_with (go_at_call 45; refine hch.mono ?_; rintro e w1 ⟨rfl, hb1⟩)
  obtain ⟨Wz, hWz⟩ : ∃ Wz, Wz = w1.alloc (.cells #[] 22) := ⟨_, rfl⟩
  rw [← hWz]
  have s1 : w.heap.size + 1 ≤ w1.heap.size := by have := hb1.size; simpa using this
  have D1 : Below w.heap.size w w1 := HD0.out.trans (hb1.mono (by simp))
  have D1z : Below w1.heap.size w1 Wz := by rw [hWz]; exact (Below.refl _ _).alloc (Nat.le_refl _) _
  have HDz := Lib.hid (D1.trans (D1z.mono (by omega)))
  have hsz : w1.heap.size + 1 ≤ Wz.heap.size := by rw [hWz]; simp
  have HG1 : Hid (Wz.heap[w.heap.size]? = some (.cells #[.int .i64 zs.length, .slice (some ⟨b, off, none⟩) zs.length cap] 28 (0, 0))) := (D1z.block _ (by omega)).trans ((hb1.block w.heap.size (by simp)).trans HGA.out)
  have HT0 : Hid (TS Wz w1.heap.size (.slice (some ⟨w1.heap.size, 0, none⟩) 0 0) ((pjV (fun _ => zs) K C zs.length 0).map prI)) := by
    have := World.ownsRow_made w1 #[] 0 (base := w1.heap.size) (e := 22) (size := 1) (by simp) (by decide) rfl
    rw [← hWz] at this
    exact ⟨[], this, rfl, fun i h => by simp [pjV] at h⟩
  have HMY : Hid (∀ (x y : Nat) (W : World), Below w1.heap.size Wz W → x < zs.length → y < zs.length → x ≠ y → Calls Tryd.prog 46 #[.agg #[.int .i64 zs.length, .slice (some ⟨b, off, none⟩) zs.length cap], .int .i64 K, .int .i64 C, .int .i64 x, .int .i64 y] W fun e w' => e = .returned (.bool (mayB zs K C x y)) ∧ Below W.heap.size W w') := fun x y W h hx hy hxy => HMYW.out W (HDz.out.trans (h.mono (by omega))) x y hx hy hxy
  clear hWz hch hb1 D1 D1z HGA HMYW
  try go_wp2_with fail
  go_loopw [9, 10] (fun u i wr => ∃ k : Nat, k ≤ zs.length ∧ i = .int .i64 k ∧ Hid (TS wr w1.heap.size u ((pjV (fun _ => zs) K C zs.length k).map prI)) ∧ Below w1.heap.size Wz wr) (fun _ i _ => zs.length - (intOf i).toNat)
  case atStart => exact ⟨0, Nat.zero_le _, rfl, HT0, Below.refl _ _⟩
  case round =>
    clear HT0
    obtain ⟨k, hk, rfl, HT, hE⟩ := hrel
    obtain ⟨b0, b1, -, -⟩ := two_cells ((hE.block w.heap.size (by omega)).trans HG1.out)
    by_cases hlt : (k : Int) < zs.length
    · have hkl : k < zs.length := by omega
      have hk0 : (0 : Int) ≤ k := by omega
      have HT1 : Hid (TS wr w1.heap.size u9 ((pjW (fun _ => zs) K C k (pjV (fun _ => zs) K C zs.length k) (k + 1)).map prI)) := by show TS _ _ _ _; rw [pjW_start _ _ _ (Nat.le_refl _)]; exact HT.out
      go_wp2_with fail
      clear b0 b1 HT
      obtain ⟨wo, rfl⟩ : ∃ wo : World, wo = wr := ⟨_, rfl⟩
      go_loopw [9, 11] (fun u i wr => ∃ y : Nat, k < y ∧ y ≤ zs.length ∧ i = .int .i64 y ∧ Hid (TS wr w1.heap.size u ((pjW (fun _ => zs) K C k (pjV (fun _ => zs) K C zs.length k) y).map prI)) ∧ Below w1.heap.size Wz wr) (fun _ i _ => zs.length - (intOf i).toNat)
      case atStart => exact ⟨k + 1, by omega, by omega, by go_num, HT1, hE⟩
      case round =>
        clear HT1 hE
        obtain ⟨y, hky, hy, rfl, HT, hE⟩ := hrel
        obtain ⟨b0, b1, -, -⟩ := two_cells ((hE.block w.heap.size (by omega)).trans HG1.out)
        have hs := hE.size
        by_cases hly : (y : Int) < zs.length
        · have hyl : y < zs.length := by omega
          have hy0 : (0 : Int) ≤ y := by omega
          have hhas := HMY.out k y wr hE hkl hyl (by omega)
          cases hbt : mayB zs K C k y with
          | true =>
            have HNX := Lib.hid (pjW_yes (Rf := fun _ => zs) (k := K) (c := C) (q := pjV (fun _ => zs) K C zs.length k) hky hbt)
            have hlen : (pjW (fun _ => zs) K C k (pjV (fun _ => zs) K C zs.length k) y).length ≤ 4100 := by
              have h1 := pjW_len (Rf := fun _ => zs) (k := K) (c := C) (v := k) (q := pjV (fun _ => zs) K C zs.length k) y
              have h2 := pjV_len (Rf := fun _ => zs) (k := K) (c := C) (n := zs.length) k
              have h3 : zs.length * k ≤ 62 * 62 := Nat.mul_le_mul hm62 (by omega)
              omega
            rw [hbt] at hhas
            have HHAS := Lib.hid hhas
            obtain ⟨cs, hT⟩ := HT.out
            have HTC := Lib.hid hT
            obtain ⟨Lp, hLp⟩ : ∃ Lp, Lp = (pjW (fun _ => zs) K C k (pjV (fun _ => zs) K C zs.length k) y).map prI := ⟨_, rfl⟩
            have hLl : Lp.length ≤ 4100 := by rw [hLp, List.length_map]; exact hlen
            have HLP : Hid ((pjW (fun _ => zs) K C k (pjV (fun _ => zs) K C zs.length k) (y + 1)).map prI = Lp ++ [[(k : Int), (y : Int)]]) := by show _ = _; rw [HNX.out, List.map_append, hLp]; rfl
            rw [← hLp] at HTC
            clear hT HT hLp hlen hhas hbt
            go_wp2_with (first
              | (go_at_call 46; refine HHAS.out.mono ?_; rintro e w2 ⟨rfl, hb2⟩; have HT2 := Lib.hid (HTC.out.below hb2); have hE2 := hE.trans (hb2.mono (by omega)); have s2 := hE2.size; have HTB : Hid (((w2.alloc (.cells #[.int .i64 k, .int .i64 y] 2)).alloc (.cells #[.slice (some ⟨w2.heap.size, 0, none⟩) 2 2] 22)).ownsRow w1.heap.size 22 1 u9 Lp.length cs) := World.ownsRow.alloc (World.ownsRow.alloc HT2.out.1 _) _; have HNC : Hid (∀ j q, [Value.slice (some ⟨w2.heap.size, 0, none⟩) 2 2][j]? = some q → ((w2.alloc (.cells #[.int .i64 k, .int .i64 y] 2)).alloc (.cells #[.slice (some ⟨w2.heap.size, 0, none⟩) 2 2] 22)).cell? ((⟨w2.heap.size + 1, 0, none⟩ : Addr).add j) = some q) := (by
                  have h := cell_one_new (w2.alloc (.cells #[.int .i64 k, .int .i64 y] 2)) (.slice (some ⟨w2.heap.size, 0, none⟩) 2 2) 22
                  rw [World.size_alloc] at h
                  exact h))
              | (at_builtin; refine wpList_append_own_at _ rfl (.tmp 40) (.tmp 44) 37 rfl w1.heap.size 22 j0 (.slice none 0 0) 1 24 Tryd.underlying37 HJ.out HJ0.out HJ1.out HJ2.out rfl (by decide) u9 Lp.length cs rfl HTB.out ⟨w2.heap.size + 1, 0, none⟩ 1 1 [.slice (some ⟨w2.heap.size, 0, none⟩) 2 2] rfl rfl HNC.out (by simp [Value.oneCell']) (by unfold maxLen; omega) (by omega) (by simp; omega) ?_; intro l3 w8 hown8 hgr8 _ hloc; obtain ⟨q1, q2⟩ := ts_end HT2.out (by omega) hown8 hgr8 (by simpa using hloc); have Q1 := Lib.hid q1; have Q2 := Lib.hid q2; clear q1 q2 hown8 hgr8 hloc))
            have HS3 : Hid (TS w8 w1.heap.size l3 ((pjW (fun _ => zs) K C k (pjV (fun _ => zs) K C zs.length k) (y + 1)).map prI)) := by show TS _ _ _ _; rw [HLP.out]; exact Q1.out
            have hE8 := hE2.trans (Q2.out _ (Nat.le_refl _))
            go_roundw
            case rel => exact ⟨y + 1, by omega, by omega, by go_num, HS3, hE8⟩
            case measure => simp [intOf]; omega
          | false =>
            have HT1 : Hid (TS wr w1.heap.size u9 ((pjW (fun _ => zs) K C k (pjV (fun _ => zs) K C zs.length k) (y + 1)).map prI)) := by show TS _ _ _ _; rw [pjW_no (Rf := fun _ => zs) (k := K) (c := C) (q := pjV (fun _ => zs) K C zs.length k) hbt]; exact HT.out
            rw [hbt] at hhas
            have HHAS := Lib.hid hhas
            clear hhas hbt HT
            go_wp2_with (go_at_call 46; refine HHAS.out.mono ?_; rintro e w2 ⟨rfl, hb2⟩; have HT2 : Hid (TS w2 w1.heap.size u9 ((pjW (fun _ => zs) K C k (pjV (fun _ => zs) K C zs.length k) (y + 1)).map prI)) := HT1.out.below hb2; have hE2 := hE.trans (hb2.mono (by omega)))
            go_roundw
            case rel => exact ⟨y + 1, by omega, by omega, by go_num, HT2, hE2⟩
            case measure => simp [intOf]; omega
        · obtain rfl : y = zs.length := by omega
          have HT1 : Hid (TS wr w1.heap.size u9 ((pjV (fun _ => zs) K C zs.length (k + 1)).map prI)) := by show TS _ _ _ _; exact HT.out
          clear HT
          go_wp2_with fail
          go_roundw
          case rel => exact ⟨k + 1, by omega, by go_num, HT1, hE⟩
          case measure => simp [intOf]; omega
    · obtain rfl : k = zs.length := by omega
      have HTF := Lib.hid (HT.out.base (show w.heap.size ≤ w1.heap.size by omega))
      have hEF := HDz.out.trans (hE.mono (by omega))
      clear HT
      go_wp2_with fail
      go_ret2
      exact ⟨⟨_, rfl, HTF.out⟩, hEF⟩

end Go.Proofs.YtehpafbhejcbmaaDoor
