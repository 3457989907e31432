/-
  spec.IsCover.
-/
import Derived.Test.YtlodaeoikkjbkaaDoorIm
import Derived.Test.YtlodaeoikkjbkaaDoorCk2
import Derived.Deep.RegionHeld3
namespace Go.Proofs.YtlodaeoikkjbkaaDoor
set_option maxRecDepth 100000
open Go.RowKit

/-- What a list of places below n1 tells. -/
def ivB (n1 : Int) (zs hs vs : List Int) : Bool := vsOk n1 vs vs.length && allGood zs hs vs zs.length
theorem ivB_no {n1 : Int} {zs hs vs : List Int} (h : vsOk n1 vs vs.length = false) : ivB n1 zs hs vs = false := by unfold ivB; rw [h]; rfl
theorem ivB_bad {n1 : Int} {zs hs vs : List Int} (h : allGood zs hs vs zs.length = false) : ivB n1 zs hs vs = false := by unfold ivB; rw [h]; simp
theorem ivB_yes {n1 : Int} {zs hs vs : List Int} (h : vsOk n1 vs vs.length = true) (h2 : allGood zs hs vs zs.length = true) : ivB n1 zs hs vs = true := by unfold ivB; rw [h, h2]; rfl

set_option maxHeartbeats 800000 in
theorem specIv_inv (n0 n1 : Int) (u0 u1 u2 : Value) (zs hs : List Int) (w : World) (h0 : Sl w u0 zs) (h1 : Sl w u1 hs) (hl0 : zs.length ≤ 9223372036854775807) (hl1 : hs.length ≤ 9223372036854775807) (hg : (isG n0 zs && isG n1 hs) = false) :
    Calls Tryd.prog 19 #[.agg #[.int .i64 n0, u0], .agg #[.int .i64 n1, u1], u2] w fun e w' => e = .returned (.tuple #[.bool false, .int .i64 1]) ∧ Below w.heap.size w w' := by
  have D0 : Below w.heap.size w ((w.alloc (.cells #[.int .i64 n0, u0] 28)).alloc (.cells #[.int .i64 n1, u1] 28)) := ((Below.refl _ _).alloc (Nat.le_refl _) _).alloc (by simp) _
  have his := l01Is_any n0 u0 zs _ (h0.below D0) hl0
  have H1 := Lib.hid (h1.below D0)
  have X1 := Lib.hid (heap_new_at (w.alloc (.cells #[.int .i64 n0, u0] 28)) (.cells #[.int .i64 n1, u1] 28) (w.heap.size + 1) (by simp))
  cases hg0 : isG n0 zs with
  | false =>
    rw [hg0] at his
    clear hg hg0 h0 h1
    go_enter Tryd.func19, Tryd.ntmps19
    go_wp2_with (first | (go_at_call 38; with_reducible refine his.mono ?_; rintro e w1 ⟨rfl, hb1⟩; have D1 := D0.trans (hb1.mono (by simp; omega))))
    go_ret2
    exact ⟨rfl, D1⟩
  | true =>
    have hg1 : isG n1 hs = false := by rw [hg0] at hg; simpa using hg
    rw [hg0] at his
    have HG1 := Lib.hid hg1
    clear hg hg0 h0 h1 hg1
    go_enter Tryd.func19, Tryd.ntmps19
    go_wp2_with (first | (go_at_call 38; with_reducible refine his.mono ?_; rintro e w1 ⟨rfl, hb1⟩; obtain ⟨x0, x1, -, -⟩ := two_cells ((hb1.block (w.heap.size + 1) (by simp)).trans X1.out); have D1 := D0.trans (hb1.mono (by simp; omega)); have hib := l01Is_any n1 u1 hs w1 (H1.out.below hb1) hl1; rw [HG1.out] at hib; clear his) | (go_at_call 38; with_reducible refine hib.mono ?_; rintro e w2 ⟨rfl, hb2⟩; have D2 := D1.trans (hb2.mono D1.size)))
    go_ret2
    exact ⟨rfl, D2⟩


set_option maxRecDepth 100000 in
set_option maxHeartbeats 1600000 in
theorem specIv_len (b0 o0 c0 b1 o1 c1 : Nat) (u2 : Value) (zs hs vs : List Int) (w : World) (hb0 : b0 < w.heap.size) (hc0 : Cells w b0 o0 zs) (hb1' : b1 < w.heap.size) (hc1 : Cells w b1 o1 hs) (h2 : Sl w u2 vs) (hg0 : isG zs.length zs = true) (hg1 : isG hs.length hs = true) (_ : vs.length ≤ 1048576) (hne : vs.length ≠ zs.length) :
    Calls Tryd.prog 19 #[.agg #[.int .i64 zs.length, .slice (some ⟨b0, o0, none⟩) zs.length c0], .agg #[.int .i64 hs.length, .slice (some ⟨b1, o1, none⟩) hs.length c1], u2] w fun e w' => e = .returned (.tuple #[.bool false, .int .i64 2]) ∧ Below w.heap.size w w' := by
  have p0 := isG_parts hg0; have p1 := isG_parts hg1
  have q0 : zs.length ≤ 62 := by omega
  have q1 : hs.length ≤ 62 := by omega
  have D0 : Below w.heap.size w ((w.alloc (.cells #[.int .i64 zs.length, .slice (some ⟨b0, o0, none⟩) zs.length c0] 28)).alloc (.cells #[.int .i64 hs.length, .slice (some ⟨b1, o1, none⟩) hs.length c1] 28)) := ((Below.refl _ _).alloc (Nat.le_refl _) _).alloc (by simp) _
  have his := l01Is_some zs.length b0 o0 c0 zs ((w.alloc (.cells #[.int .i64 zs.length, .slice (some ⟨b0, o0, none⟩) zs.length c0] 28)).alloc (.cells #[.int .i64 hs.length, .slice (some ⟨b1, o1, none⟩) hs.length c1] 28)) (Nat.lt_of_lt_of_le hb0 D0.size) (hc0.below D0 hb0) (by omega)
  rw [hg0] at his
  have X0 := Lib.hid (heap_old_at (heap_new_at w (.cells #[.int .i64 zs.length, .slice (some ⟨b0, o0, none⟩) zs.length c0] 28) w.heap.size rfl) (.cells #[.int .i64 hs.length, .slice (some ⟨b1, o1, none⟩) hs.length c1] 28))
  have X1 := Lib.hid (heap_new_at (w.alloc (.cells #[.int .i64 zs.length, .slice (some ⟨b0, o0, none⟩) zs.length c0] 28)) (.cells #[.int .i64 hs.length, .slice (some ⟨b1, o1, none⟩) hs.length c1] 28) (w.heap.size + 1) (by simp))
  have HG1 := Lib.hid hg1
  have HC1 := Lib.hid hc1
  have hf := slForm h2
  have hnn : ((vs.length : Int) != (zs.length : Int)) = true := by rw [bne_iff_ne]; omega
  rw [hf]
  clear hf h2 hg0 hg1 hc0 hc1 p0 p1
  go_enter Tryd.func19, Tryd.ntmps19
  go_wp2_with (first | (go_at_call 38; with_reducible refine his.mono ?_; rintro e w1 ⟨rfl, hb1⟩; obtain ⟨a0, a1, -, -⟩ := two_cells ((hb1.block w.heap.size (by simp; omega)).trans X0.out); obtain ⟨x0, x1, -, -⟩ := two_cells ((hb1.block (w.heap.size + 1) (by simp)).trans X1.out); have E1 := hb1; have D1 := D0.trans (hb1.mono (by simp; omega)); have hib := l01Is_some hs.length b1 o1 c1 hs w1 (Nat.lt_of_lt_of_le hb1' D1.size) (HC1.out.below D1 hb1') (by omega); rw [HG1.out] at hib; clear his) | (go_at_call 38; with_reducible refine hib.mono ?_; rintro e w2 ⟨rfl, hb2⟩; have E2 : Below ((w.alloc (.cells #[.int .i64 zs.length, .slice (some ⟨b0, o0, none⟩) zs.length c0] 28)).alloc (.cells #[.int .i64 hs.length, .slice (some ⟨b1, o1, none⟩) hs.length c1] 28)).heap.size ((w.alloc (.cells #[.int .i64 zs.length, .slice (some ⟨b0, o0, none⟩) zs.length c0] 28)).alloc (.cells #[.int .i64 hs.length, .slice (some ⟨b1, o1, none⟩) hs.length c1] 28)) w2 := E1.trans (hb2.mono (by have := E1.size; simpa using this)); obtain ⟨a0, a1, -, -⟩ := two_cells ((E2.block w.heap.size (by simp; omega)).trans X0.out); obtain ⟨x0, x1, -, -⟩ := two_cells ((E2.block (w.heap.size + 1) (by simp)).trans X1.out); have D2 := D0.trans (E2.mono (by simp; omega)); clear hib E1 hb1 hb2 D1))
  go_ret2
  exact ⟨rfl, D2⟩

set_option maxRecDepth 100000 in
set_option maxHeartbeats 3200000 in
theorem specIv_main (b0 o0 c0 b1 o1 c1 b2 o2 c2 : Nat) (zs hs vs : List Int) (w : World) (hb0 : b0 < w.heap.size) (hc0 : Cells w b0 o0 zs) (hb1' : b1 < w.heap.size) (hc1 : Cells w b1 o1 hs) (hb2' : b2 < w.heap.size) (hc2 : Cells w b2 o2 vs) (hg0 : isG zs.length zs = true) (hg1 : isG hs.length hs = true) (hle : vs.length = zs.length) :
    Calls Tryd.prog 19 #[.agg #[.int .i64 zs.length, .slice (some ⟨b0, o0, none⟩) zs.length c0], .agg #[.int .i64 hs.length, .slice (some ⟨b1, o1, none⟩) hs.length c1], .slice (some ⟨b2, o2, none⟩) zs.length c2] w fun e w' => e = .returned (.tuple #[.bool (ivB hs.length zs hs vs), .int .i64 (vc hs.length vs)]) ∧ Below w.heap.size w w' := by
  have p0 := isG_parts hg0; have p1 := isG_parts hg1
  have q0 : zs.length ≤ 62 := by omega
  have q1 : hs.length ≤ 62 := by omega
  have D0 : Below w.heap.size w ((w.alloc (.cells #[.int .i64 zs.length, .slice (some ⟨b0, o0, none⟩) zs.length c0] 28)).alloc (.cells #[.int .i64 hs.length, .slice (some ⟨b1, o1, none⟩) hs.length c1] 28)) := ((Below.refl _ _).alloc (Nat.le_refl _) _).alloc (by simp) _
  have his := l01Is_some zs.length b0 o0 c0 zs ((w.alloc (.cells #[.int .i64 zs.length, .slice (some ⟨b0, o0, none⟩) zs.length c0] 28)).alloc (.cells #[.int .i64 hs.length, .slice (some ⟨b1, o1, none⟩) hs.length c1] 28)) (Nat.lt_of_lt_of_le hb0 D0.size) (hc0.below D0 hb0) (by omega)
  rw [hg0] at his
  have X0 := Lib.hid (heap_old_at (heap_new_at w (.cells #[.int .i64 zs.length, .slice (some ⟨b0, o0, none⟩) zs.length c0] 28) w.heap.size rfl) (.cells #[.int .i64 hs.length, .slice (some ⟨b1, o1, none⟩) hs.length c1] 28))
  have X1 := Lib.hid (heap_new_at (w.alloc (.cells #[.int .i64 zs.length, .slice (some ⟨b0, o0, none⟩) zs.length c0] 28)) (.cells #[.int .i64 hs.length, .slice (some ⟨b1, o1, none⟩) hs.length c1] 28) (w.heap.size + 1) (by simp))
  have HG0 := Lib.hid hg0
  have HG1 := Lib.hid hg1
  have HC0 := Lib.hid hc0
  have HC1 := Lib.hid hc1
  have HC2 := Lib.hid hc2
  have HLE := Lib.hid hle
  have hnn : ((zs.length : Int) != (zs.length : Int)) = false := by simp
  clear hg0 hg1 hc0 hc1 hc2 p0 p1 hle
  go_enter Tryd.func19, Tryd.ntmps19
  go_wp2_with (first | (go_at_call 38; with_reducible refine his.mono ?_; rintro e w1 ⟨rfl, hb1⟩; obtain ⟨a0, a1, -, -⟩ := two_cells ((hb1.block w.heap.size (by simp; omega)).trans X0.out); obtain ⟨x0, x1, -, -⟩ := two_cells ((hb1.block (w.heap.size + 1) (by simp)).trans X1.out); have E1 := hb1; have D1 := D0.trans (hb1.mono (by simp; omega)); have hib := l01Is_some hs.length b1 o1 c1 hs w1 (Nat.lt_of_lt_of_le hb1' D1.size) (HC1.out.below D1 hb1') (by omega); rw [HG1.out] at hib; clear his) | (go_at_call 38; with_reducible refine hib.mono ?_; rintro e w2 ⟨rfl, hb2⟩; have E2 : Below ((w.alloc (.cells #[.int .i64 zs.length, .slice (some ⟨b0, o0, none⟩) zs.length c0] 28)).alloc (.cells #[.int .i64 hs.length, .slice (some ⟨b1, o1, none⟩) hs.length c1] 28)).heap.size ((w.alloc (.cells #[.int .i64 zs.length, .slice (some ⟨b0, o0, none⟩) zs.length c0] 28)).alloc (.cells #[.int .i64 hs.length, .slice (some ⟨b1, o1, none⟩) hs.length c1] 28)) w2 := E1.trans (hb2.mono (by have := E1.size; simpa using this)); obtain ⟨a0, a1, -, -⟩ := two_cells ((E2.block w.heap.size (by simp; omega)).trans X0.out); obtain ⟨x0, x1, -, -⟩ := two_cells ((E2.block (w.heap.size + 1) (by simp)).trans X1.out); have D2 := D0.trans (E2.mono (by simp; omega)); clear hib E1 hb1 hb2 D1))
  clear a0 a1 x0 x1
  have l2 : w.heap.size + 2 ≤ w2.heap.size := by have := E2.size; simpa using this
  have E2' : Below (w.heap.size + 2) ((w.alloc (.cells #[.int .i64 zs.length, .slice (some ⟨b0, o0, none⟩) zs.length c0] 28)).alloc (.cells #[.int .i64 hs.length, .slice (some ⟨b1, o1, none⟩) hs.length c1] 28)) w2 := E2.mono (by simp)
  clear E2
  go_loopw [8] (fun i wr => ∃ k : Nat, k ≤ zs.length ∧ i = .int .i64 k ∧ Hid (vsOk hs.length vs k = true) ∧ Below (w.heap.size + 2) ((w.alloc (.cells #[.int .i64 zs.length, .slice (some ⟨b0, o0, none⟩) zs.length c0] 28)).alloc (.cells #[.int .i64 hs.length, .slice (some ⟨b1, o1, none⟩) hs.length c1] 28)) wr) (fun i _ => zs.length - (intOf i).toNat)
  case atStart => exact ⟨0, Nat.zero_le _, rfl, vsOk_zero _ _, E2'⟩
  case round =>
    clear E2' D2
    obtain ⟨k, hk, rfl, HO, hB⟩ := hrel
    have DB := D0.trans (hB.mono (by simp))
    obtain ⟨a0, a1, -, -⟩ := two_cells ((hB.block w.heap.size (by omega)).trans X0.out)
    obtain ⟨x0, x1, -, -⟩ := two_cells ((hB.block (w.heap.size + 1) (by omega)).trans X1.out)
    by_cases hlt : (k : Int) < zs.length
    · have hkl : k < zs.length := by omega
      have hz : wr.cell? ⟨b2, o2 + k, none⟩ = some (.int .i64 (el vs k)) := (HC2.out.below DB hb2') k (by rw [HLE.out]; exact hkl)
      have hk0 : (0 : Int) ≤ k := by omega
      by_cases hin : 0 ≤ el vs k ∧ el vs k ≤ (hs.length : Int) - 1
      · have HN : Hid (vsOk hs.length vs (k + 1) = true) := by show _ = _; rw [vsOk_succ, HO.out]; simp [hin]
        have hcall : ∀ W, Calls Tryd.prog 39 #[.int .i64 (el vs k), .int .i64 0, .int .i64 ((hs.length : Int) - 1)] W fun e w' => e = .returned (.bool true) ∧ W = w' := fun W => by
          have := in_any (el vs k) 0 ((hs.length : Int) - 1) W
          rw [← Bool.decide_and, decide_eq_true hin] at this
          exact this
        have hw : IntKind.i64.wrap ((hs.length : Int) - 1) = (hs.length : Int) - 1 := IntWalk.i64_in _ ⟨by omega, by omega⟩
        clear hin HO
        go_wp2
        go_quiet ((go_at_call 39; exact qsame (hcall _)))
        clear hw
        go_wp2
        go_roundw
        case rel => exact ⟨k + 1, by omega, by go_num, HN, drewN_below hB _⟩
        case measure => simp [intOf]; omega
      · have HN : Hid (vsOk hs.length vs vs.length = false) := vsOk_no (by rw [HLE.out]; exact hkl) hin
        have hcall : ∀ W, Calls Tryd.prog 39 #[.int .i64 (el vs k), .int .i64 0, .int .i64 ((hs.length : Int) - 1)] W fun e w' => e = .returned (.bool false) ∧ W = w' := fun W => by
          have := in_any (el vs k) 0 ((hs.length : Int) - 1) W
          rw [← Bool.decide_and, decide_eq_false hin] at this
          exact this
        have hw : IntKind.i64.wrap ((hs.length : Int) - 1) = (hs.length : Int) - 1 := IntWalk.i64_in _ ⟨by omega, by omega⟩
        clear hin HO
        go_wp2
        go_quiet ((go_at_call 39; exact qsame (hcall _)))
        clear hw
        go_wp2
        all_goals go_ret2
        all_goals exact ⟨by rw [ivB_no HN.out, vc_no HN.out]; rfl, drewN_below DB _⟩
    · have HV : Hid (vsOk hs.length vs vs.length = true) := by
        show _ = _
        rw [HLE.out]
        have : k = zs.length := by omega
        rw [← this]; exact HO.out
      clear HO hk
      go_wp2
      clear a0 a1 x0 x1 hlt
      go_loopw [9] (fun i wr => ∃ v : Nat, v ≤ zs.length ∧ i = .int .i64 v ∧ Hid (allGood zs hs vs v = true) ∧ Below (w.heap.size + 2) ((w.alloc (.cells #[.int .i64 zs.length, .slice (some ⟨b0, o0, none⟩) zs.length c0] 28)).alloc (.cells #[.int .i64 hs.length, .slice (some ⟨b1, o1, none⟩) hs.length c1] 28)) wr) (fun i _ => zs.length - (intOf i).toNat)
      case atStart => exact ⟨0, Nat.zero_le _, rfl, rfl, hB⟩
      case round =>
        clear hB DB
        obtain ⟨v, hv, rfl, HA, hB⟩ := hrel
        have DB := D0.trans (hB.mono (by simp))
        obtain ⟨a0, a1, -, -⟩ := two_cells ((hB.block w.heap.size (by omega)).trans X0.out)
        by_cases hlt : (v : Int) < zs.length
        · have hvl : v < zs.length := by omega
          have lw := DB.size
          have lw2 : w.heap.size + 2 ≤ wr.heap.size := by have := hB.size; simpa using this
          have hnb := l01Nb_some zs.length b0 o0 c0 zs v wr (Nat.lt_of_lt_of_le hb0 lw) (HC0.out.below DB hb0) HG0.out hvl
          go_wp2_with fail
          refine hnb.mono ?_
          rintro e w3 ⟨un, rfl, hON, hb3⟩
          obtain ⟨na, nc, rfl⟩ : ∃ a c, un = .slice a (nbL zs v zs.length).length c := ⟨_, _, slForm hON.sl⟩
          have hNform := hON.form
          have B3 := hB.trans (hb3.mono lw2)
          have DB3 := D0.trans (B3.mono (by simp))
          obtain ⟨ln, hln⟩ : ∃ ln, ln = (nbN zs v).length := ⟨_, rfl⟩
          have hll : (nbL zs v zs.length).length = ln := by rw [hln, nbN_map, List.length_map]
          have hl62 : ln ≤ 62 := by
            rw [hln]
            have : (nbN zs v).length ≤ zs.length := by unfold nbN; exact Nat.le_trans (List.length_filter_le _ _) (by simp)
            omega
          have hcN : ∀ (m y : Nat), (nbN zs v)[m]? = some y → ∃ gn, na = some ⟨gn, 0, none⟩ ∧ w3.cell? ⟨gn, m, none⟩ = some (.int .i64 y) := by
            intro m y hy
            have hm := (List.getElem?_eq_some_iff.1 hy).1
            rcases hNform with ⟨_, e2⟩ | ⟨gn, cn, e1, _, _⟩
            · rw [e2] at hll; simp at hll; omega
            · refine ⟨gn, by cases e1; rfl, ?_⟩
              have h := hON
              rw [e1] at h
              unfold Own at h; rw [hll] at h
              refine (World.ownsRow.cellAt h m (by omega)).trans ((map_at _ m (by omega)).trans ?_)
              have : el (nbL zs v zs.length) m = (y : Int) := by rw [nbN_map]; unfold el; simp [hy]
              rw [this]
          have HCN := Lib.hid hcN
          have HLN := Lib.hid hln
          obtain ⟨img, himg⟩ : ∃ img, img = imgL zs vs v := ⟨_, rfl⟩
          have himl : img.length = ln := by rw [himg, imgL_length, hln]
          have hp62 : ∀ p, p ∈ img → p < 62 := by rw [himg]; exact imgL_lt HLE.out HV.out (by omega)
          have HP := Lib.hid hp62
          have HIM := Lib.hid himg
          rw [hll]
          clear hnb hb3 hON hNform hll hcN hln hB a0 a1 himg hp62
          go_wp2
          go_loop [11, 12] (fun c t => ∃ m : Nat, m ≤ ln ∧ t = .int .i64 m ∧ c = .int .i64 (orL (img.take m)) ∧ Hid (∀ j (hj : j < img.length), j < m → (orL (img.take j)).testBit img[j] = false)) (fun _ t => ln - (intOf t).toNat)
          case atStart => exact ⟨0, Nat.zero_le _, rfl, rfl, fun j _ hj => absurd hj (by omega)⟩
          case round =>
            obtain ⟨m, hm, rfl, rfl, HND⟩ := hrel
            obtain ⟨M, hM⟩ : ∃ M, M = orL (img.take m) := ⟨_, rfl⟩
            have hM62 : M < 2 ^ 62 := by rw [hM]; exact orL_lt (fun p hp => HP.out p (List.mem_of_mem_take hp))
            rw [← hM]
            by_cases hlm : (m : Int) < ln
            · have hml : m < ln := by omega
              have hm0 : (0 : Int) ≤ m := by omega
              obtain ⟨y, hy⟩ : ∃ y, (nbN zs v)[m]? = some y := ⟨_, List.getElem?_eq_getElem (by rw [← HLN.out]; exact hml)⟩
              obtain ⟨gn, rfl, hcy⟩ := HCN.out m y hy
              have hyl := (nbN_mem.1 (List.mem_of_getElem? hy)).1
              have hpm : img[m]? = some (el vs y).toNat := by rw [HIM.out]; unfold imgL; rw [List.getElem?_map, hy]; rfl
              obtain ⟨p, hp⟩ : ∃ p, p = (el vs y).toNat := ⟨_, rfl⟩
              rw [← hp] at hpm
              have hplt := HP.out p (List.mem_of_getElem? hpm)
              have hpe : el vs y = (p : Int) := by
                have hv2 := HV.out
                unfold vsOk at hv2
                rw [List.all_eq_true] at hv2
                have := hv2 y (List.mem_range.2 (by rw [HLE.out]; exact hyl))
                simp at this
                omega
              have hcv : w3.cell? ⟨b2, o2 + y, none⟩ = some (.int .i64 p) := by rw [← hpe]; exact (HC2.out.below DB3 hb2') y (by rw [HLE.out]; exact hyl)
              have hy0 : (0 : Int) ≤ y := by omega
              have hyz : (y : Int) < zs.length := by omega
              have hp0 : (0 : Int) ≤ p := by omega
              have hp61 : (p : Int) ≤ 61 := by omega
              have hu := u64_small (p : Int) (by omega) (by omega)
              have hpw := i64_pow (p : Int) (by omega)
              rw [Int.toNat_natCast] at hpw
              have e8 : (2 : Int) ^ p = ((2 ^ p : Nat) : Int) := by simp
              have hp2 : 2 ^ p < 2 ^ 63 := Nat.pow_lt_pow_right (by decide) (by omega)
              have hand : bits .and .i64 (M : Int) (2 ^ p) = ((M &&& 2 ^ p : Nat) : Int) := by rw [e8]; exact and_i64 _ _ (by omega) hp2
              have hor : bits .or .i64 (M : Int) (2 ^ p) = ((M ||| 2 ^ p : Nat) : Int) := by rw [e8]; exact or_i64 _ _ (by omega) hp2
              have hat : img[m]'(by omega) = p := by
                have h := List.getElem?_eq_getElem (show m < img.length by omega)
                rw [hpm] at h; exact (Option.some.inj h).symm
              clear e8 hp hpe hy
              cases hbit : M.testBit p with
              | true =>
                have t1 : (((M &&& 2 ^ p : Nat) : Int) != 0) = true := by
                  rw [bne_iff_ne]
                  have : M &&& 2 ^ p = 2 ^ p := by rw [and_pow_bit, hbit, if_pos rfl]
                  rw [this]; have := Nat.two_pow_pos p; omega
                have HBD : Hid (goodB zs hs vs v = false) := by
                  show _ = _
                  have hd := dup_bad (l := img) (k := m) (fun q hq => by have := HP.out q hq; omega) (by omega) (by rw [hat, ← hM]; exact hbit)
                  have hdg : dg zs v = ln := by
                    rw [HLN.out]
                    refine dg_nbN ?_ (by omega)
                    have p0 := isG_parts HG0.out
                    have q := rowOk_le (rowsOk_at p0.2.2.2.1 hvl)
                    have qq := (isG_row_ok HG0.out v hvl).1
                    rw [Int.toNat_natCast] at q
                    have e : ((2 : Int) ^ zs.length) = ((2 ^ zs.length : Nat) : Int) := by simp
                    rw [e] at q
                    omega
                  unfold goodB
                  rw [← HIM.out, hdg, decide_eq_false (p := pc (orL img) = ln) (by omega), Bool.and_false]
                have HAN := Lib.hid (allGood_no hvl HBD.out)
                clear hbit hM HND hat HBD hpm hp2 hplt
                go_wp2
                go_ret2
                exact ⟨by rw [ivB_bad HAN.out, vc_yes HV.out]; rfl, DB3⟩
              | false =>
                have t1 : (((M &&& 2 ^ p : Nat) : Int) != 0) = false := by
                  have : M &&& 2 ^ p = 0 := by rw [and_pow_bit, hbit, if_neg (by simp)]
                  rw [this]; rfl
                have HN1 : Hid (orL (img.take (m + 1)) = M ||| 2 ^ p) := by
                  show _ = _
                  have e : img.take (m + 1) = img.take m ++ [p] := by rw [List.take_add_one, hpm]; rfl
                  rw [e, orL_snoc, ← hM]
                have HN2 : Hid (∀ j (hj : j < img.length), j < m + 1 → (orL (img.take j)).testBit img[j] = false) := fun j hj hjm => by
                  by_cases e : j = m
                  · subst e; rw [hat, ← hM]; exact hbit
                  · exact HND.out j hj (by omega)
                clear hbit hM HND hat hpm hp2 hplt
                go_wp2
                go_round
                case rel => exact ⟨m + 1, by omega, by go_num, congrArg (Value.int .i64) (by rw [HN1.out]), HN2⟩
                case measure => simp [intOf]; omega
            · have hml : m = ln := by omega
              have HMI : Hid (M = orL img) := by show _ = _; rw [hM, hml, ← himl, List.take_length]
              have hpcl : pc (orL img) = ln := by
                have := nodup_good (l := img) (fun q hq => by have := HP.out q hq; omega) m (by omega) HND.out
                rw [hml, ← himl, List.take_length] at this
                rw [← himl]; exact this
              have hdg : dg zs v = ln := by
                rw [HLN.out]
                refine dg_nbN ?_ (by omega)
                have p0 := isG_parts HG0.out
                have q := rowOk_le (rowsOk_at p0.2.2.2.1 hvl)
                have qq := (isG_row_ok HG0.out v hvl).1
                rw [Int.toNat_natCast] at q
                have e : ((2 : Int) ^ zs.length) = ((2 ^ zs.length : Nat) : Int) := by simp
                rw [e] at q
                omega
              obtain ⟨pv, hpv⟩ : ∃ pv, pv = (el vs v).toNat := ⟨_, rfl⟩
              have hpve : el vs v = (pv : Int) ∧ pv < hs.length := by
                have hv2 := HV.out
                unfold vsOk at hv2
                rw [List.all_eq_true] at hv2
                have := hv2 v (List.mem_range.2 (by rw [HLE.out]; exact hvl))
                simp at this
                omega
              obtain ⟨hpve, hpvl⟩ := hpve
              obtain ⟨r, hr⟩ : ∃ r, r = el hs pv := ⟨_, rfl⟩
              have HGV : Hid (goodB zs hs vs v = decide ((M : Int) = r)) := by
                show _ = _
                unfold goodB
                rw [← HIM.out, hdg, decide_eq_true hpcl, Bool.and_true, ← hpv, ← hr, HMI.out]
              have hcv : w3.cell? ⟨b2, o2 + v, none⟩ = some (.int .i64 pv) := by rw [← hpve]; exact (HC2.out.below DB3 hb2') v (by rw [HLE.out]; exact hvl)
              have hch : w3.cell? ⟨b1, o1 + pv, none⟩ = some (.int .i64 r) := by rw [hr]; exact (HC1.out.below DB3 hb1') pv hpvl
              obtain ⟨x0, x1, -, -⟩ := two_cells ((B3.block (w.heap.size + 1) (by omega)).trans X1.out)
              have hv0 : (0 : Int) ≤ v := by omega
              have hpv0 : (0 : Int) ≤ pv := by omega
              have hpvi : (pv : Int) < hs.length := by omega
              clear hM HND hpcl hdg hpv hpve hr HMI
              by_cases he : (M : Int) = r
              · have t1 : ((M : Int) != r) = false := by simpa using he
                have HA2 : Hid (allGood zs hs vs (v + 1) = true) := by show _ = _; rw [allGood_succ, HA.out, HGV.out, decide_eq_true he]; rfl
                clear he
                go_wp2
                go_quiet (fail)
                go_wp2
                go_roundw
                case rel => exact ⟨v + 1, by omega, by go_num, HA2, drewN_below B3 _⟩
                case measure => simp [intOf]; omega
              · have t1 : ((M : Int) != r) = true := by simpa using he
                have HAN := Lib.hid (allGood_no (zs := zs) (hs := hs) (vs := vs) hvl (by rw [HGV.out, decide_eq_false he]))
                clear he
                go_wp2
                go_quiet (fail)
                go_wp2
                all_goals go_ret2
                all_goals exact ⟨by rw [ivB_bad HAN.out, vc_yes HV.out]; rfl, drewN_below DB3 _⟩
        · have hvl : v = zs.length := by omega
          have HF : Hid (allGood zs hs vs zs.length = true) := by show _ = _; rw [← hvl]; exact HA.out
          clear HA
          go_wp2
          go_ret2
          exact ⟨by rw [ivB_yes HV.out HF.out, vc_yes HV.out]; rfl, DB⟩
end Go.Proofs.YtlodaeoikkjbkaaDoor
