/-
  spec.l02Girth at a vertex; the edges at a vertex from both ends.
-/
import Derived.Test.YtehpafbhejcbmaaDoorGs7
import Derived.Test.YtehpafbhejcbmaaDoorSy
namespace Go.Proofs.YtehpafbhejcbmaaDoor
set_option maxRecDepth 100000
set_option maxRecDepth 100000
open Go.RowKit

/-- The edges of a list at the vertex x. -/
def edX (x : Nat) (q : List (Nat × Nat)) : List (Nat × Nat) := q.filter fun p => p.1 == x || p.2 == x
theorem edX_sub {x : Nat} {q : List (Nat × Nat)} {p : Nat × Nat} (h : p ∈ edX x q) : p ∈ q := (List.mem_filter.1 h).1
theorem edX_in {x k y : Nat} {q : List (Nat × Nat)} (h : k = x ∨ y = x) : edX x (q ++ [(k, y)]) = edX x q ++ [(k, y)] := by
  unfold edX
  rw [List.filter_append]
  have : (k == x || y == x) = true := by simpa using h
  simp [this]
theorem edX_out {x k y : Nat} {q : List (Nat × Nat)} (h : ¬ (k = x ∨ y = x)) : edX x (q ++ [(k, y)]) = edX x q := by
  unfold edX
  rw [List.filter_append]
  have : (k == x || y == x) = false := by
    rw [Bool.or_eq_false_iff]
    exact ⟨by rw [beq_eq_false_iff_ne]; exact fun e => h (.inl e), by rw [beq_eq_false_iff_ne]; exact fun e => h (.inr e)⟩
  simp [this]

theorem flipL_comm (zs : List Int) {a b : Nat} (h : a ≠ b) : flipL zs a b = flipL zs b a := by
  unfold flipL
  rw [List.set_comm _ _ h]
/-- An edge is in the same cycles from both its ends. -/
theorem cyc_symm {zs : List Int} (hg : isG zs.length zs = true) {a b : Nat} (ha : a < zs.length) (hb : b < zs.length) (hab : a ≠ b) (hbt : bt (el zs a) b = true) : cyc zs a b = cyc zs b a := by
  have hbt2 : bt (el zs b) a = true := by rw [isG_symm hg ha hb]; exact hbt
  have hF := isG_flip hg ha hb hab
  have key : cyD zs a (2 ^ b) b = cyD zs b (2 ^ a) a := by
    rw [← cyD_cut9 ha hb hbt, ← cyD_cut9 hb ha hbt2, ← flipL_comm zs hab]
    unfold cyD
    have e : Rw (flipL zs a b) a 0 = Rw (flipL zs a b) b 0 := by funext p q; rw [Rw_zero, Rw_zero]
    rw [e, flipL_length]
    refine dOf_symm (fun p q hp hq => ?_) ha hb
    rw [Rw_zero, Rw_zero]
    exact isG_symm hF (by rw [flipL_length]; exact hp) (by rw [flipL_length]; exact hq)
  unfold cyc
  rw [key]

/-- The edges at x, x first. -/
def gaL (zs : List Int) (x : Nat) : List (Nat × Nat) := (mem (el zs x).toNat).map fun w => (x, w)
theorem gaL_eq {zs : List Int} (hg : isG zs.length zs = true) {x : Nat} (hx : x < zs.length) : gF zs (edX x (edL zs)) = gF zs (gaL zs x) := by
  obtain ⟨p1, p2, -, h4, h5⟩ := isG_iff.1 hg
  have hlt : ∀ w, bt (el zs x) w = true → w < zs.length := fun w hw => by
    refine Nat.lt_of_not_le fun hle => ?_
    unfold bt at hw
    rw [Nat.testBit_lt_two_pow (Nat.lt_of_lt_of_le (h4 x hx).2.1 (Nat.pow_le_pow_right (by decide) hle))] at hw
    cases hw
  have hne : ∀ w, bt (el zs x) w = true → x ≠ w := fun w hw e => by
    rw [← e, (h4 x hx).2.2] at hw; cases hw
  refine Int.le_antisymm ?_ ?_
  · refine gF_le.2 ⟨(gF_le.1 (Int.le_refl _)).1, fun p hp => ?_⟩
    obtain ⟨w, hw, rfl⟩ := List.mem_map.1 hp
    have hw2 : bt (el zs x) w = true := by
      have : (el zs x).toNat.testBit w = true := by
        unfold mem at hw
        simpa using (List.mem_filter.1 hw).2
      exact this
    have hwl := hlt w hw2
    have hxw := hne w hw2
    show _ ≤ cyc zs x w
    rcases Nat.lt_or_gt_of_ne hxw with h | h
    · exact (gF_le.1 (Int.le_refl (gF zs (edX x (edL zs))))).2 (x, w) (List.mem_filter.2 ⟨edL_mem.2 ⟨hx, by omega, h, hw2⟩, by simp⟩)
    · rw [cyc_symm hg hx hwl hxw hw2]
      exact (gF_le.1 (Int.le_refl (gF zs (edX x (edL zs))))).2 (w, x) (List.mem_filter.2 ⟨edL_mem.2 ⟨hwl, by omega, h, by rw [h5 w x hwl hx]; exact hw2⟩, by simp⟩)
  · refine gF_le.2 ⟨(gF_le.1 (Int.le_refl _)).1, fun p hp => ?_⟩
    obtain ⟨a, b⟩ := p
    obtain ⟨q1, q2⟩ := List.mem_filter.1 hp
    obtain ⟨e1, e2, e3, e4⟩ := edL_mem.1 q1
    have hbl := (edL_lt q1 (fun i hi => (h4 i hi).2.1)).2
    have q3 : a = x ∨ b = x := by simpa using q2
    show _ ≤ cyc zs a b
    rcases q3 with rfl | rfl
    · refine (gF_le.1 (Int.le_refl (gF zs (gaL zs a)))).2 (a, b) (List.mem_map.2 ⟨b, ?_, rfl⟩)
      unfold mem
      exact List.mem_filter.2 ⟨List.mem_range.2 e2, e4⟩
    · rw [cyc_symm hg e1 hbl (by omega) e4]
      have e5 : bt (el zs b) a = true := by rw [h5 b a hbl e1]; exact e4
      refine (gF_le.1 (Int.le_refl (gF zs (gaL zs b)))).2 (b, a) (List.mem_map.2 ⟨a, ?_, rfl⟩)
      unfold mem
      exact List.mem_filter.2 ⟨List.mem_range.2 (by omega), e5⟩

set_option maxHeartbeats 3200000 in
theorem girthSv_some (b off cap : Nat) (zs : List Int) (x : Nat) (w : World) (hb : b < w.heap.size) (hc : Cells w b off zs) (hg : isG zs.length zs = true) :
    Calls Tryd.prog 30 #[.agg #[.int .i64 zs.length, .slice (some ⟨b, off, none⟩) zs.length cap], .int .i64 x] w fun e w' => e = .returned (.int .i64 (oG zs (edX x (edL zs)))) ∧ Below w.heap.size w w' := by
  obtain ⟨p1, p2, -, -, -⟩ := isG_parts hg
  have hm62 : zs.length ≤ 62 := by omega
  have D0 : Below w.heap.size w (w.alloc (.cells #[.int .i64 zs.length, .slice (some ⟨b, off, none⟩) zs.length cap] 28)) := (Below.refl _ _).alloc (Nat.le_refl _) _
  have HG0 := Lib.hid (GBox.new (n := zs.length) (cap := cap) hb hc)
  have HZ := Lib.hid (isG_row_ok hg)
  have HZ2 : Hid (∀ k, k < zs.length → (el zs k).toNat < 2 ^ zs.length) := fun k hk => ((isG_iff.1 hg).2.2.2.1 k hk).2.1
  have HAW : Hid (∀ (W : World) (x y : Nat), Below w.heap.size w W → x < zs.length → y < zs.length → Calls Tryd.prog 55 #[.agg #[.int .i64 zs.length, .slice (some ⟨b, off, none⟩) zs.length cap], .int .i64 x, .int .i64 y] W fun ed w' => (∃ c : Int, ed = .returned (.tuple #[.int .i64 (arL zs x y), .int .i64 c])) ∧ Below W.heap.size W w') := fun W x y h hx hy => around_some b off cap zs x y W (Nat.lt_of_lt_of_le hb h.size) (hc.below h hb) hg hx hy
  have HFIN : Hid (oG zs (edX x (edP zs zs.length)) = oG zs (edX x (edL zs))) := rfl
  obtain ⟨GN, hGN⟩ : ∃ GN, GN = oG zs (edX x (edL zs)) := ⟨_, rfl⟩
  rw [← hGN] at HFIN ⊢
  obtain ⟨Wb, hWb⟩ : ∃ Wb, Wb = w.alloc (.cells #[.int .i64 zs.length, .slice (some ⟨b, off, none⟩) zs.length cap] 28) := ⟨_, rfl⟩
  rw [← hWb] at D0 HG0
  have sb : w.heap.size + 1 ≤ Wb.heap.size := by rw [hWb]; simp
  have HFX : Hid (∀ W, Below (w.heap.size + 1) Wb W → ∀ x : Nat, x < zs.length → W.cell? ⟨w.heap.size, 0, none⟩ = some (.int .i64 zs.length) ∧ W.cell? ⟨w.heap.size, 1, none⟩ = some (.slice (some ⟨b, off, none⟩) zs.length cap) ∧ W.cell? ⟨b, off + x, none⟩ = some (.int .i64 (el zs x))) := fun W hW x hx => by
    have hGW := HG0.out.below hW
    exact ⟨hGW.b0, hGW.b1, hGW.cells x hx⟩
  have HDB : Hid (∀ W, Below (w.heap.size + 1) Wb W → Below w.heap.size w W) := fun W hW => D0.trans (hW.mono (by omega))
  have HS0 : Hid (oG zs (edX x (edP zs 0)) = 0) := rfl
  have hp0 : 0 < zs.length := by omega
  have hxx0 : (0 : Int) ≤ x := by omega
  clear hc hg hGN HG0 D0
  go_enter Tryd.func30, Tryd.ntmps30
  go_wp2_with fail
  rw [← hWb]
  clear hWb
  go_loopw [5, 6] (fun o i wr => ∃ (k : Nat) (t : Int), k ≤ zs.length ∧ o = .int .i64 t ∧ i = .int .i64 k ∧ Hid (t = oG zs (edX x (edP zs k))) ∧ Below (w.heap.size + 1) Wb wr) (fun _ i _ => zs.length - (intOf i).toNat)
  case atStart => exact ⟨0, 0, Nat.zero_le _, rfl, rfl, HS0.out.symm, Below.refl _ _⟩
  case round =>
    clear HS0
    obtain ⟨k, t, hk, rfl, rfl, HT, hE⟩ := hrel
    obtain ⟨b0, b1, -⟩ := HFX.out _ hE 0 hp0
    by_cases hlt : (k : Int) < zs.length
    · have hkl : k < zs.length := by omega
      have hk0 : (0 : Int) ≤ k := by omega
      have HT1 : Hid (t = oG zs (edX x (edW zs k (k + 1)))) := by show _ = _; rw [edW_start]; exact HT.out
      go_wp2_with fail
      clear b0 b1 HT
      obtain ⟨wo, rfl⟩ : ∃ wo : World, wo = wr := ⟨_, rfl⟩
      go_loopw [5, 7, 8, 9] (fun o i _ _ wr => ∃ (y : Nat) (t : Int), k < y ∧ y ≤ zs.length ∧ o = .int .i64 t ∧ i = .int .i64 y ∧ Hid (t = oG zs (edX x (edW zs k y))) ∧ Below (w.heap.size + 1) Wb wr) (fun _ i _ _ _ => zs.length - (intOf i).toNat)
      case atStart => exact ⟨k + 1, t, by omega, by omega, rfl, by go_num, HT1, hE⟩
      case round =>
        clear HT1 hE
        obtain ⟨y, t, hky, hy, rfl, rfl, HT, hE⟩ := hrel
        obtain ⟨b0, b1, rk⟩ := HFX.out _ hE k hkl
        have hs := hE.size
        by_cases hly : (y : Int) < zs.length
        · have hyl : y < zs.length := by omega
          have hy0 : (0 : Int) ≤ y := by omega
          have hy62 : (y : Int) ≤ 61 := by omega
          obtain ⟨hb0, hb1⟩ := HZ.out k hkl
          have bit0 := bit_zero (el zs k) y hb0 hb1
          clear hb0 hb1
          cases hbt : bt (el zs k) y with
          | true =>
            rw [hbt] at bit0
            by_cases hix : k = x ∨ y = x
            · have HIX : ((k : Int) != (x : Int)) = false ∨ (((k : Int) != (x : Int)) = true ∧ ((y : Int) != (x : Int)) = false) := by
                by_cases h : k = x
                · exact .inl (by rw [h]; simp)
                · have h2 : y = x := hix.resolve_left h
                  exact .inr ⟨by rw [bne_iff_ne]; omega, by rw [h2]; simp⟩
              have HST := Lib.hid (oG_snoc (q := edX x (edW zs k y)) (gF_bd2 (fun p hp => edW_sub HZ2.out hkl hy p (edX_sub hp))) hm62 hkl (show k ≠ y by omega))
              rw [← edX_in hix, ← edW_yes hky hbt, ← HT.out] at HST
              have har := HAW.out wr k y (HDB.out _ hE) hkl hyl
              obtain ⟨ar, ha⟩ : ∃ ar, ar = arL zs k y := ⟨_, rfl⟩
              rw [← ha] at har HST
              clear hbt HT ha
              clear hix
              rcases HIX with hn1 | ⟨hn1, hn2⟩
              all_goals
                by_cases h1 : 0 < ar
                · have h1' : decide (ar > 0) = true := by simpa using h1
                  by_cases h2 : t = 0
                  · have h2' : (t == 0) = true := by simpa using h2
                    have HN := Lib.hid (HST.out.1 ⟨h1, .inl h2⟩)
                    clear HST h2
                    go_wp2_with (go_at_call 55; refine har.mono ?_; rintro ed w2 ⟨⟨cw, rfl⟩, hb2⟩; have hE2 := hE.trans (hb2.mono (by omega)))
                    go_roundw
                    case rel => exact ⟨y + 1, ar, by omega, by omega, rfl, by go_num, HN.out.symm, hE2⟩
                    case measure => simp [intOf]; omega
                  · have h2' : (t == 0) = false := by simpa using h2
                    by_cases h3 : ar < t
                    · have h3' : decide (ar < t) = true := by simpa using h3
                      have HN := Lib.hid (HST.out.1 ⟨h1, .inr h3⟩)
                      clear HST
                      go_wp2_with (go_at_call 55; refine har.mono ?_; rintro ed w2 ⟨⟨cw, rfl⟩, hb2⟩; have hE2 := hE.trans (hb2.mono (by omega)))
                      go_roundw
                      case rel => exact ⟨y + 1, ar, by omega, by omega, rfl, by go_num, HN.out.symm, hE2⟩
                      case measure => simp [intOf]; omega
                    · have h3' : decide (ar < t) = false := by simpa using h3
                      have HN := Lib.hid (HST.out.2 (fun h => h.2.elim h2 h3))
                      clear HST
                      go_wp2_with (go_at_call 55; refine har.mono ?_; rintro ed w2 ⟨⟨cw, rfl⟩, hb2⟩; have hE2 := hE.trans (hb2.mono (by omega)))
                      go_roundw
                      case rel => exact ⟨y + 1, t, by omega, by omega, rfl, by go_num, HN.out.symm, hE2⟩
                      case measure => simp [intOf]; omega
                · have h1' : decide (ar > 0) = false := by simpa using h1
                  have HN := Lib.hid (HST.out.2 (fun h => h1 h.1))
                  clear HST
                  go_wp2_with (go_at_call 55; refine har.mono ?_; rintro ed w2 ⟨⟨cw, rfl⟩, hb2⟩; have hE2 := hE.trans (hb2.mono (by omega)))
                  go_roundw
                  case rel => exact ⟨y + 1, t, by omega, by omega, rfl, by go_num, HN.out.symm, hE2⟩
                  case measure => simp [intOf]; omega
            · have hn1 : ((k : Int) != (x : Int)) = true := by rw [bne_iff_ne]; omega
              have hn2 : ((y : Int) != (x : Int)) = true := by rw [bne_iff_ne]; omega
              have HN : Hid (t = oG zs (edX x (edW zs k (y + 1)))) := by show _ = _; rw [edW_yes hky hbt, edX_out hix]; exact HT.out
              clear HT hbt hix
              go_wp2_with fail
              go_roundw
              case rel => exact ⟨y + 1, t, by omega, by omega, rfl, by go_num, HN, hE⟩
              case measure => simp [intOf]; omega
          | false =>
            rw [hbt] at bit0
            have HN : Hid (t = oG zs (edX x (edW zs k (y + 1)))) := by show _ = _; rw [edW_no hbt]; exact HT.out
            clear HT hbt
            go_wp2_with fail
            go_roundw
            case rel => exact ⟨y + 1, t, by omega, by omega, rfl, by go_num, HN, hE⟩
            case measure => simp [intOf]; omega
        · obtain rfl : y = zs.length := by omega
          have HT1 : Hid (t = oG zs (edX x (edP zs (k + 1)))) := by show _ = _; rw [← edW_end hm62 (HZ2.out k hkl)]; exact HT.out
          clear HT
          go_wp2_with fail
          go_roundw
          case rel => exact ⟨k + 1, t, by omega, rfl, by go_num, HT1, hE⟩
          case measure => simp [intOf]; omega
    · obtain rfl : k = zs.length := by omega
      have HR : Hid (t = GN) := HT.out.trans HFIN.out
      have hEF := HDB.out _ hE
      clear HT
      go_wp2_with fail
      go_ret
      exact ⟨ret_int HR.out, hEF⟩

end Go.Proofs.YtehpafbhejcbmaaDoor
