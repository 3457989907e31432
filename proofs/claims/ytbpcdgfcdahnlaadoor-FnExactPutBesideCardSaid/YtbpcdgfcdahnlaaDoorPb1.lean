/-
  impl.PutBeside: two graphs that fit beside each other.
-/
import Derived.Test.YtbpcdgfcdahnlaaDoorPe7
import Derived.BigRegion
namespace Go.Proofs.YtbpcdgfcdahnlaaDoor
set_option maxRecDepth 100000
open Go.RowKit

/-- The rows of two graphs beside each other. -/
def besL (zs hs : List Int) : List Int := zs ++ hs.map fun r => r * 2 ^ zs.length
theorem besL_length (zs hs : List Int) : (besL zs hs).length = zs.length + hs.length := by simp [besL]
theorem el_besL (zs hs : List Int) (v : Nat) (h : v < hs.length) : el (besL zs hs) (zs.length + v) = el hs v * 2 ^ zs.length := by
  simp [el, besL, h]
theorem besL_part (zs hs : List Int) : part (besL zs hs) zs.length = zs ++ List.replicate hs.length 0 := by
  simp [part, besL]
theorem bes_fits (z : Int) (n m : Nat) (h0 : 0 ≤ z) (h1 : z ≤ 2 ^ m - 1) (hnm : n + m ≤ 62) : 0 ≤ z * 2 ^ n ∧ z * 2 ^ n ≤ 4611686018427387904 := by
  obtain ⟨k, rfl⟩ := Int.eq_ofNat_of_zero_le h0
  have e : ((2 : Int) ^ m) = ((2 ^ m : Nat) : Int) := by simp
  have en : ((2 : Int) ^ n) = ((2 ^ n : Nat) : Int) := by simp
  rw [e] at h1
  have hk : k < 2 ^ m := by have := Nat.two_pow_pos m; omega
  have h2 : k * 2 ^ n < 2 ^ m * 2 ^ n := Nat.mul_lt_mul_of_pos_right hk (Nat.two_pow_pos n)
  rw [← Nat.pow_add] at h2
  have h3 : 2 ^ (m + n) ≤ 2 ^ 62 := Nat.pow_le_pow_right (by decide) (by omega)
  rw [en, ← Int.natCast_mul]
  omega

/-- The builtin copy into a block known whole: what it leaves, told of a world of its own. -/
theorem wpList_copy_to {P : Program} {w : World} {ops : Array Oper} {rest : List Oper} {o : Oper} {a : Act} {Q : Exit → Act → World → Prop} (hgd : o.guard = none) (d s : Operand) (dT sT : TypeId)
    (ho : o.op = .call { callee := .builtin .copy, args := #[d, s], argTypes := #[dT, sT] }) (elem : TypeId) (hu : P.underlying dT = some (.slice elem)) (hsz : (P.info? elem).map (·.size) = some 1)
    (g off dLen dCap : Nat) (ad : Addr) (sLen sCap : Nat) (hd : a.eval d = .slice (some ⟨g, off, none⟩) dLen dCap) (hs : a.eval s = .slice (some ad) sLen sCap)
    (cur : Array Value) (t : TypeId) (hg : w.heap[g]? = some (.cells cur t (0, 0))) (cs : List Value) (hn : cs.length = Nat.min sLen dLen)
    (hsrc : ∀ j v, cs[j]? = some v → w.cell? (ad.add j) = some v) (hfit : off + cs.length ≤ cur.size) (h1 : ∀ v ∈ cs, v.oneCell' = true)
    (h : ∀ w', w.grownBy w' (some g) → w'.heap[g]? = some (.cells (cur.toList.take off ++ (cs ++ cur.toList.drop (off + cs.length))).toArray t (0, 0)) → wpList P ops Q rest (a.put o.dst (goInt cs.length)) w') : wpList P ops Q (o :: rest) a w :=
  wpList_copy_own hgd d s dT sT ho elem hu hsz g off dLen dCap ad sLen sCap hd hs cur t hg cs hn hsrc hfit h1
    (h _ ⟨rfl, rfl, rfl, by simp [World.setRow], fun k _ hne => heap_setRow_other w _ k _ (fun e => hne (by rw [e]))⟩ (setRow_heap w g _ _ t (0, 0) hg))

set_option maxRecDepth 100000 in
set_option maxHeartbeats 3200000 in
theorem implPb_yes (n m : Int) (b off cap b2 off2 cap2 : Nat) (zs hs : List Int) (w : World) (hb : b < w.heap.size) (hc : Cells w b off zs) (hb2 : b2 < w.heap.size) (hc2 : Cells w b2 off2 hs) (hg : isG n zs = true) (hh : isG m hs = true) (hT : Tab w) (hnm : n + m ≤ 62) :
    Calls Tryd.prog 42 #[.agg #[.int .i64 n, .slice (some ⟨b, off, none⟩) zs.length cap], .agg #[.int .i64 m, .slice (some ⟨b2, off2, none⟩) hs.length cap2]] w fun e w' => GRes w.heap.size (n + m) (besL zs hs) 0 e w' ∧ Below w.heap.size w w' := by
  obtain ⟨p1, p2, p3, -, -⟩ := isG_parts hg
  obtain ⟨q1, q2, q3, q4, -⟩ := isG_parts hh
  subst p3 q3
  have hz : ∀ i, i < hs.length → 0 ≤ el hs i ∧ el hs i ≤ 2 ^ hs.length - 1 := by
    intro i hi
    have hr := rowsOk_at q4 hi
    have a := rowOk_le hr
    rw [Int.toNat_natCast] at a
    exact ⟨rowOk_ge hr, a⟩
  obtain ⟨W, hW⟩ : ∃ W, W = (((w.alloc (.cells #[.int .i64 zs.length, .slice (some ⟨b, off, none⟩) zs.length cap] 28)).alloc (.cells #[.int .i64 hs.length, .slice (some ⟨b2, off2, none⟩) hs.length cap2] 28)).alloc (.cells #[.int .i64 0, .slice none 0 0] 28)) := ⟨_, rfl⟩
  have D0 : Below w.heap.size w W := by rw [hW]; exact (((Below.refl _ _).alloc (Nat.le_refl _) _).alloc (by simp) _).alloc (by simp; omega) _
  have hsz : W.heap.size = w.heap.size + 3 := by rw [hW]; simp
  have K2 : W.heap[w.heap.size]? = some (.cells #[.int .i64 zs.length, .slice (some ⟨b, off, none⟩) zs.length cap] 28 (0, 0)) := by rw [hW]; exact heap_old_at (heap_old_at (heap_new_at w (.cells #[.int .i64 zs.length, .slice (some ⟨b, off, none⟩) zs.length cap] 28) w.heap.size rfl) _) _
  have K3 : W.heap[w.heap.size + 1]? = some (.cells #[.int .i64 hs.length, .slice (some ⟨b2, off2, none⟩) hs.length cap2] 28 (0, 0)) := by rw [hW]; exact heap_old_at (heap_new_at (w.alloc (.cells #[.int .i64 zs.length, .slice (some ⟨b, off, none⟩) zs.length cap] 28)) (.cells #[.int .i64 hs.length, .slice (some ⟨b2, off2, none⟩) hs.length cap2] 28) (w.heap.size + 1) (by simp)) _
  have K4 : W.heap[w.heap.size + 2]? = some (.cells #[.int .i64 0, .slice none 0 0] 28 (0, 0)) := by rw [hW]; exact heap_new_at ((w.alloc (.cells #[.int .i64 zs.length, .slice (some ⟨b, off, none⟩) zs.length cap] 28)).alloc (.cells #[.int .i64 hs.length, .slice (some ⟨b2, off2, none⟩) hs.length cap2] 28)) (.cells #[.int .i64 0, .slice none 0 0] 28) (w.heap.size + 2) (by simp)
  have is1 : ∀ W', Below W.heap.size W W' → Calls Tryd.prog 54 #[.agg #[.int .i64 zs.length, .slice (some ⟨b, off, none⟩) zs.length cap]] W' fun e w' => e = .returned (.bool true) ∧ Below W'.heap.size W' w' := fun W' h => by
    have := implIs_some zs.length b off cap zs W' (by have := h.size; omega) ((hc.below D0 hb).below h (by omega)) (by omega) ((hT.belowAll D0).belowAll h)
    rw [hg] at this
    exact this
  have is2 : ∀ W', Below W.heap.size W W' → Calls Tryd.prog 54 #[.agg #[.int .i64 hs.length, .slice (some ⟨b2, off2, none⟩) hs.length cap2]] W' fun e w' => e = .returned (.bool true) ∧ Below W'.heap.size W' w' := fun W' h => by
    have := implIs_some hs.length b2 off2 cap2 hs W' (by have := h.size; omega) ((hc2.below D0 hb2).below h (by omega)) (by omega) ((hT.belowAll D0).belowAll h)
    rw [hh] at this
    exact this
  have C1 := Lib.hid (hc.below D0 hb)
  have C2 := Lib.hid (hc2.below D0 hb2)
  have HK2 := Lib.hid K2; have HK3 := Lib.hid K3; have HK4 := Lib.hid K4; have HSZ := Lib.hid hsz; have HZ := Lib.hid hz
  have I1 := Lib.hid is1; have I2 := Lib.hid is2
  clear is1 is2 K2 K3 K4 hsz hz hc hc2 hg hh hT q4
  go_enter Tryd.func42, Tryd.ntmps42
  obtain ⟨a0, a1, -, -⟩ := two_cells HK2.out
  obtain ⟨a2, a3, -, -⟩ := two_cells HK3.out
  rw [hW] at a0 a1 a2 a3
  go_wp2_with fail
  rw [← hW] at *
  clear hW
  refine (I1.out W (Below.refl _ _)).mono ?_
  rintro e w1 ⟨rfl, hb1⟩
  clear a0 a1 a2 a3
  have s1 := hb1.size
  obtain ⟨a0, a1, -, -⟩ := two_cells ((hb1.block w.heap.size (by rw [HSZ.out]; omega)).trans HK2.out)
  obtain ⟨a2, a3, -, -⟩ := two_cells ((hb1.block (w.heap.size + 1) (by rw [HSZ.out]; omega)).trans HK3.out)
  go_wp2_with fail
  refine (I2.out w1 hb1).mono ?_
  rintro e w2 ⟨rfl, hb2'⟩
  have hb2 : Below W.heap.size W w2 := hb1.trans (hb2'.mono s1)
  clear a0 a1 a2 a3 hb1 hb2'
  obtain ⟨a0, a1, -, -⟩ := two_cells ((hb2.block w.heap.size (by rw [HSZ.out]; omega)).trans HK2.out)
  obtain ⟨a2, a3, -, -⟩ := two_cells ((hb2.block (w.heap.size + 1) (by rw [HSZ.out]; omega)).trans HK3.out)
  have hle : decide ((62 : Int) < (zs.length : Int) + hs.length) = false := by simp; omega
  go_wp2_with fail
  have hemp := implEmpty_any (zs.length + hs.length) w2 (by omega)
  simp only [Int.natCast_add] at hemp
  refine hemp.mono ?_
  rintro e w3 ⟨rfl, hB3, hb3⟩
  have l3 := hB3.lt
  have s2 := hb2.size
  have hb23 : Below W.heap.size W w3 := hb2.trans (hb3.mono s2)
  clear a0 a1 a2 a3 hemp hb2 hb3
  have N2 := (hb23.block w.heap.size (by rw [HSZ.out]; omega)).trans HK2.out
  have N3 := (hb23.block (w.heap.size + 1) (by rw [HSZ.out]; omega)).trans HK3.out
  have N4 := (hb23.block (w.heap.size + 2) (by rw [HSZ.out]; omega)).trans HK4.out
  have hsw := HSZ.out
  have M2 := Lib.hid ((Below.heap_alloc w3 (.cells #[.int .i64 (zs.length + hs.length), .slice (some ⟨w2.heap.size + 1, 0, none⟩) (zs.length + hs.length) (zs.length + hs.length)] 28) w.heap.size (by omega)).trans N2)
  have M3 := Lib.hid ((Below.heap_alloc w3 (.cells #[.int .i64 (zs.length + hs.length), .slice (some ⟨w2.heap.size + 1, 0, none⟩) (zs.length + hs.length) (zs.length + hs.length)] 28) (w.heap.size + 1) (by omega)).trans N3)
  have M4 := Lib.hid ((Below.heap_alloc w3 (.cells #[.int .i64 (zs.length + hs.length), .slice (some ⟨w2.heap.size + 1, 0, none⟩) (zs.length + hs.length) (zs.length + hs.length)] 28) (w.heap.size + 2) (by omega)).trans N4)
  have HB3 := Lib.hid (hB3.alloc (.cells #[.int .i64 (zs.length + hs.length), .slice (some ⟨w2.heap.size + 1, 0, none⟩) (zs.length + hs.length) (zs.length + hs.length)] 28))
  have X3 := Lib.hid (World.alloc_heap_new w3 (.cells #[.int .i64 (zs.length + hs.length), .slice (some ⟨w2.heap.size + 1, 0, none⟩) (zs.length + hs.length) (zs.length + hs.length)] 28))
  have D3 : Below W.heap.size W (w3.alloc (.cells #[.int .i64 (zs.length + hs.length), .slice (some ⟨w2.heap.size + 1, 0, none⟩) (zs.length + hs.length) (zs.length + hs.length)] 28)) := hb23.alloc (by omega) _
  obtain ⟨a0, a1, -, -⟩ := two_cells M2.out
  obtain ⟨a2, a3, -, -⟩ := two_cells M3.out
  clear N2 N3 N4 hB3 hsw
  have HNN : Hid ((zs.map (Value.int .i64)).length = Nat.min zs.length (zs.length + hs.length)) := by
    show _ = _; rw [List.length_map]; exact (Nat.min_eq_left (by omega)).symm
  have HSRC : Hid (∀ j u, (zs.map (Value.int .i64))[j]? = some u → (w3.alloc (.cells #[.int .i64 (zs.length + hs.length), .slice (some ⟨w2.heap.size + 1, 0, none⟩) (zs.length + hs.length) (zs.length + hs.length)] 28)).cell? ((⟨b, off, none⟩ : Addr).add j) = some u) := by
    intro j u hj
    have hjz : j < zs.length := by
      have := (List.getElem?_eq_some_iff.1 hj).1
      simpa using this
    rw [map_at zs j hjz] at hj
    cases hj
    have hadd : (⟨b, off, none⟩ : Addr).add j = ⟨b, off + j, none⟩ := by unfold Addr.add; split <;> simp_all
    rw [hadd]
    exact (C1.out.below D3 (by have := HSZ.out; omega)) j hjz
  have HON : Hid (∀ u ∈ zs.map (Value.int .i64), u.oneCell' = true) := by
    intro u hu; simp at hu; obtain ⟨y, _, rfl⟩ := hu; rfl
  have HFI : Hid (0 + (zs.map (Value.int .i64)).length ≤ (intsA (List.replicate (zs.length + hs.length) 0)).size) := by show _ ≤ _; simp [intsA]
  go_wp2_with (refine wpList_copy_to rfl (.tmp 32) (.tmp 34) 22 22 rfl 2 Tryd.underlying22 size2 (w2.heap.size + 1) 0 (zs.length + hs.length) (zs.length + hs.length) ⟨b, off, none⟩ zs.length cap rfl rfl (intsA (List.replicate (zs.length + hs.length) 0)) 2 HB3.out (zs.map (Value.int .i64)) HNN.out HSRC.out HFI.out HON.out ?_; intro w4 hg4 hr4; have HG4 := Lib.hid hg4; have HR4 := Lib.hid hr4; clear hg4 hr4 a0 a1 a2 a3; obtain ⟨a0, a1, -, -⟩ := two_cells ((HG4.out.block w.heap.size (Array.getElem?_eq_some_iff.1 M2.out).1 (by have := HSZ.out; simp; omega)).trans M2.out); obtain ⟨a2, a3, -, -⟩ := two_cells ((HG4.out.block (w.heap.size + 1) (Array.getElem?_eq_some_iff.1 M3.out).1 (by have := HSZ.out; simp; omega)).trans M3.out))
  have hsw := HSZ.out
  have X4 := Lib.hid ((HG4.out.block w3.heap.size (Array.getElem?_eq_some_iff.1 X3.out).1 (by simp; omega)).trans X3.out)
  have N4 := Lib.hid ((HG4.out.block (w.heap.size + 2) (Array.getElem?_eq_some_iff.1 M4.out).1 (by simp; omega)).trans M4.out)
  have N2 := Lib.hid ((HG4.out.block w.heap.size (Array.getElem?_eq_some_iff.1 M2.out).1 (by simp; omega)).trans M2.out)
  have N3 := Lib.hid ((HG4.out.block (w.heap.size + 1) (Array.getElem?_eq_some_iff.1 M3.out).1 (by simp; omega)).trans M3.out)
  have D4 : Below W.heap.size W w4 := D3.grown HG4.out D3.size (fun k e => by cases e; omega)
  have B4 : Hid (Blk w4 (w2.heap.size + 1) (part (besL zs hs) (zs.length + 0))) := by
    show Blk _ _ (part (besL zs hs) zs.length)
    rw [besL_part]
    have h := HR4.out
    rw [show (List.take 0 (intsA (List.replicate (zs.length + hs.length) 0)).toList ++ (zs.map (Value.int .i64) ++ List.drop (0 + (zs.map (Value.int .i64)).length) (intsA (List.replicate (zs.length + hs.length) 0)).toList)).toArray = intsA (zs ++ List.replicate hs.length 0) by simp [intsA]] at h
    exact h
  have s4 := HG4.out.size
  have sx := (Array.getElem?_eq_some_iff.1 X4.out).1
  have hw3 : W.heap.size ≤ w3.heap.size := hb23.size
  clear HR4 HG4 X3 M2 M3 M4 HB3 D3 HSRC HNN HON HFI hb23 a0 a1 a2 a3 hsw
  go_loopw [7, 8, 39] (fun _ _ i wr => ∃ v : Nat, v ≤ hs.length ∧ i = .int .i64 v ∧ Hid (Blk wr (w2.heap.size + 1) (part (besL zs hs) (zs.length + v))) ∧ Hid (wr.heap[w3.heap.size]? = some (.cells #[.int .i64 (zs.length + hs.length), .slice (some ⟨w2.heap.size + 1, 0, none⟩) (zs.length + hs.length) (zs.length + hs.length)] 28 (0, 0))) ∧ Below W.heap.size w4 wr) (fun _ _ i _ => hs.length - (intOf i).toNat)
  case atStart => exact ⟨0, Nat.zero_le _, rfl, B4, X4, Below.refl _ _⟩
  case round =>
    obtain ⟨v, hv, rfl, HO, HX, hB⟩ := hrel
    have D5 := D4.trans hB
    have hsw := HSZ.out
    obtain ⟨a0, a1, -, -⟩ := two_cells ((hB.block w.heap.size (by omega)).trans N2.out)
    obtain ⟨x0, x1, -, -⟩ := two_cells HX.out
    by_cases hlt : (v : Int) < hs.length
    · have hvl : v < hs.length := by omega
      have hz : wr.cell? ⟨b2, off2 + v, none⟩ = some (.int .i64 (el hs v)) := (C2.out.below D5 (by omega)) v hvl
      have hv0 : (0 : Int) ≤ v := by omega
      have hpl := part_length (besL zs hs) (zs.length + v) (by rw [besL_length]; omega)
      rw [besL_length] at hpl
      have hcell : wr.cell? ⟨w2.heap.size + 1, zs.length + v, none⟩ = some (.int .i64 (el (part (besL zs hs) (zs.length + v)) (zs.length + v))) := HO.out.cell (by omega)
      have hfr : wr.frozen? ⟨w2.heap.size + 1, zs.length + v, none⟩ = false := HO.out.frozen _
      obtain ⟨f0, f1⟩ := bes_fits (el hs v) zs.length hs.length (HZ.out v hvl).1 (HZ.out v hvl).2 (by omega)
      have htn : ((zs.length : Int) + (v : Int)).toNat = zs.length + v := by omega
      have HS : Hid (Blk (wr.setCell ⟨w2.heap.size + 1, zs.length + v, none⟩ (.int .i64 (el hs v * 2 ^ zs.length))) (w2.heap.size + 1) (part (besL zs hs) (zs.length + (v + 1)))) := by
        show Blk _ _ _
        rw [← Nat.add_assoc, ← part_succ (besL zs hs) (zs.length + v) (by rw [besL_length]; omega), el_besL zs hs v hvl]
        exact HO.out.set _ _
      have HX2 : Hid ((wr.setCell ⟨w2.heap.size + 1, zs.length + v, none⟩ (.int .i64 (el hs v * 2 ^ zs.length))).heap[w3.heap.size]? = _) := (Below.heap_setCell wr ⟨w2.heap.size + 1, zs.length + v, none⟩ _ w3.heap.size (by simp; omega)).trans HX.out
      have hBs := hB.setCell (p := ⟨w2.heap.size + 1, zs.length + v, none⟩) (by simp; omega) (.int .i64 (el hs v * 2 ^ zs.length))
      clear hpl HO HX D5 hsw
      go_wp2_with fail
      go_region
      clear htn f0 f1
      go_wp2
      go_roundw
      case rel => exact ⟨v + 1, by omega, by go_num, HS, HX2, hBs.drew⟩
      case measure => simp [intOf]; omega
    · have hvl : v = hs.length := by omega
      subst hvl
      have RB := Lib.hid ((hB.block (w.heap.size + 2) (by omega)).trans N4.out)
      obtain ⟨r0, r1, g0, g1⟩ := two_cells RB.out
      have HF : Hid (Own wr W.heap.size (.slice (some ⟨w2.heap.size + 1, 0, none⟩) (zs.length + hs.length) (zs.length + hs.length)) (besL zs hs)) := by
        have h := HO.out
        rw [show zs.length + hs.length = (besL zs hs).length from (besL_length zs hs).symm, part_all] at h
        have := Own.of_blk h (B := W.heap.size) (by omega) (by rw [besL_length]; unfold maxLen; omega)
        rw [besL_length] at this
        exact this
      have HD5 := Lib.hid (D0.trans (D5.mono D0.size))
      clear HO D5 hsw
      go_wp2
      have hfin := two_set (a := .int .i64 (zs.length + hs.length)) (b := .slice (some ⟨w2.heap.size + 1, 0, none⟩) (zs.length + hs.length) (zs.length + hs.length)) RB.out
      have hgr : wr.grownBy ((wr.setCell ⟨w.heap.size + 2, 0, none⟩ (.int .i64 (zs.length + hs.length))).setCell ⟨w.heap.size + 2, 1, none⟩ (.slice (some ⟨w2.heap.size + 1, 0, none⟩) (zs.length + hs.length) (zs.length + hs.length))) (some (w.heap.size + 2)) := grown_set (grown_set ⟨rfl, rfl, rfl, Nat.le_refl _, fun _ _ _ => rfl⟩ _ 0 _) _ 1 _
      refine bodyPost_ret (v := .tuple #[.agg #[.int .i64 (zs.length + hs.length), .slice (some ⟨w2.heap.size + 1, 0, none⟩) (zs.length + hs.length) (zs.length + hs.length)], .int .i64 0]) (results_cell2 (p := 4) (u := 5) (ty := 28) rfl _ _ (w.heap.size + 2) 28 _ (0, 0) _ rfl hfin Tryd.underlying28 rfl (by exact info27)) rfl ⟨⟨_, rfl, ?_⟩, ?_⟩
      · have hs2 := HSZ.out
        exact (HF.out.kept hgr (.inr (by simp [Value.ownBlock]; omega))).base (by omega)
      · exact (HD5.out.setCell (p := ⟨w.heap.size + 2, 0, none⟩) (by simp) _).setCell (p := ⟨w.heap.size + 2, 1, none⟩) (by simp) _
end Go.Proofs.YtbpcdgfcdahnlaaDoor
