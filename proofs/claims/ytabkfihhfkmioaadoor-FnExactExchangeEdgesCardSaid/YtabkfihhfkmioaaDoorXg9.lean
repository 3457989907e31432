/-
  impl.ExchangeEdges.
-/
import Derived.Test.YtabkfihhfkmioaaDoorXf9
import Derived.BigQuiet
import Derived.Deep.QuietTactic
namespace Go.Proofs.YtabkfihhfkmioaaDoor
set_option maxRecDepth 100000
open Go.RowKit

set_option maxHeartbeats 1600000 in
theorem implEx_code (n : Int) (v : Value) (p q r s c : Int) (w W : World) (hW : W = ((w.alloc (.cells #[.int .i64 n, v] 26)).alloc (.cells #[.int .i64 0, .slice none 0 0] 26)).alloc (.cells #[.int .i64 p, .int .i64 q, .int .i64 r, .int .i64 s] 2)) (hc : c ≠ 0)
    (hcall : Calls Tryd.prog 54 #[.agg #[.int .i64 n, v], .slice (some ⟨w.heap.size + 1 + 1, 0, none⟩) 4 4] W fun e w' => e = .returned (.int .i64 c) ∧ Below W.heap.size W w') :
    Calls Tryd.prog 25 #[.agg #[.int .i64 n, v], .int .i64 p, .int .i64 q, .int .i64 r, .int .i64 s] w fun e w' => GRes w.heap.size 0 [] c e w' ∧ Below w.heap.size w w' := by
  have D0 : Below w.heap.size w W := by rw [hW]; exact (((Below.refl _ _).alloc (Nat.le_refl _) _).alloc (by simp) _).alloc (by simp; omega) _
  have hsz : w.heap.size + 3 ≤ W.heap.size := by rw [hW]; simp
  have HR : Hid (W.heap[w.heap.size + 1]? = some (.cells #[.int .i64 0, .slice none 0 0] 26 (0, 0))) := by show _ = _; rw [hW]; exact heap_old_at (heap_new_at _ _ _ (by simp)) _
  have HD := Lib.hid D0
  have hcb : (c != 0) = true := by simpa using hc
  have hcb2 : (c == 0) = false := by simpa using hc
  clear D0
  go_enter Tryd.func25, Tryd.ntmps25
  go_wp2_with fail
  rw [← hW]
  refine hcall.mono ?_
  rintro e w1 ⟨rfl, hb1⟩
  have HR1 := Lib.hid ((hb1.block (w.heap.size + 1) (by omega)).trans HR.out)
  have HB1 := Lib.hid (HD.out.trans (hb1.mono HD.out.size))
  obtain ⟨r0, r1, g0, g1⟩ := two_cells HR1.out
  clear hb1 hW hcall
  go_wp2
  have hfin := two_set (a := .int .i64 0) (b := .slice none 0 0) HR1.out
  refine bodyPost_ret (v := .tuple #[.agg #[.int .i64 0, .slice none 0 0], .int .i64 c]) (results_cell2 (p := 10) (u := 11) (ty := 26) rfl _ _ (w.heap.size + 1) 26 _ (0, 0) _ rfl hfin Tryd.underlying26 rfl (by exact info27)) rfl ⟨⟨_, rfl, Own.nil _ _⟩, ?_⟩
  exact (HB1.out.setCell (p := ⟨w.heap.size + 1, 0, none⟩) (by simp) _).setCell (p := ⟨w.heap.size + 1, 1, none⟩) (by simp) _

set_option maxHeartbeats 3200000 in
theorem implEx_same (b off cap : Nat) (zs : List Int) (p q r s : Nat) (w : World) (hb : b < w.heap.size) (hc : Cells w b off zs) (hg : isG zs.length zs = true) (hvs : vsOk zs.length [(p : Int), (q : Int), (r : Int), (s : Int)] 4 = true) (hT : Tab w) (hq : p = q ∨ p = r ∨ p = s ∨ q = r ∨ q = s ∨ r = s) :
    Calls Tryd.prog 25 #[.agg #[.int .i64 zs.length, .slice (some ⟨b, off, none⟩) zs.length cap], .int .i64 p, .int .i64 q, .int .i64 r, .int .i64 s] w fun e w' => GRes w.heap.size 0 [] 2 e w' ∧ Below w.heap.size w w' := by
  obtain ⟨h1a, h1b, -, -, -⟩ := isG_parts hg
  obtain ⟨v1, v2, v3, v4⟩ := vs4_parts hvs
  obtain ⟨W, hW⟩ : ∃ W, W = ((w.alloc (.cells #[.int .i64 zs.length, .slice (some ⟨b, off, none⟩) zs.length cap] 26)).alloc (.cells #[.int .i64 0, .slice none 0 0] 26)).alloc (.cells #[.int .i64 p, .int .i64 q, .int .i64 r, .int .i64 s] 2) := ⟨_, rfl⟩
  have D0 : Below w.heap.size w W := by rw [hW]; exact (((Below.refl _ _).alloc (Nat.le_refl _) _).alloc (by simp) _).alloc (by simp; omega) _
  have hsz : w.heap.size + 3 ≤ W.heap.size := by rw [hW]; simp
  have HR0 : Hid (W.heap[w.heap.size + 1]? = some (.cells #[.int .i64 0, .slice none 0 0] 26 (0, 0))) := by show _ = _; rw [hW]; exact heap_old_at (heap_new_at _ _ _ (by simp)) _
  have HX : Hid (Cells W (w.heap.size + 1 + 1) 0 [(p : Int), (q : Int), (r : Int), (s : Int)]) := by
    show Cells _ _ _ _
    rw [hW]
    exact cells4 (heap_new_at _ _ _ (by simp))
  have HG0 : Hid (GBox W w.heap.size zs.length b off cap zs) := by
    show GBox _ _ _ _ _ _ _
    rw [hW]
    exact ((GBox.new (n := zs.length) (cap := cap) hb hc).below ((Below.refl _ _).alloc (by simp) _)).below ((Below.refl _ _).alloc (by simp) _)
  have hv := chk_some zs.length b off cap zs (w.heap.size + 1 + 1) 0 4 [(p : Int), (q : Int), (r : Int), (s : Int)] W HG0.out.lb HG0.out.cells (by omega) HX.out hg (by omega) (by simp) (hT.belowAll D0)
  rw [vc_yes hvs] at hv
  have HD0 := Lib.hid D0
  have hwp := i64_pow (p : Int) (by omega)
  rw [Int.toNat_natCast] at hwp
  have h0p : (0 : Int) ≤ p := by omega
  have hmp : (p : Int) ≤ 62 := by omega
  have hwq := i64_pow (q : Int) (by omega)
  rw [Int.toNat_natCast] at hwq
  have h0q : (0 : Int) ≤ q := by omega
  have hmq : (q : Int) ≤ 62 := by omega
  have hwr := i64_pow (r : Int) (by omega)
  rw [Int.toNat_natCast] at hwr
  have h0r : (0 : Int) ≤ r := by omega
  have hmr : (r : Int) ≤ 62 := by omega
  have hws := i64_pow (s : Int) (by omega)
  rw [Int.toNat_natCast] at hws
  have h0s : (0 : Int) ≤ s := by omega
  have hms : (s : Int) ≤ 62 := by omega
  have hP62 : 2 ^ p < 2 ^ 62 := Nat.pow_lt_pow_right (by decide) (by omega)
  obtain ⟨o1, u1⟩ := or_pows (x := 2 ^ p) (b := q) hP62 (by omega)
  rw [show (((2 ^ p : Nat)) : Int) = (2 : Int) ^ p by simp] at o1
  obtain ⟨o2, u2⟩ := or_pows (x := 2 ^ p ||| 2 ^ q) (b := r) u1 (by omega)
  obtain ⟨o3, u3⟩ := or_pows (x := 2 ^ p ||| 2 ^ q ||| 2 ^ r) (b := s) u2 (by omega)
  have HN := cnt4_no (a := p) (b := q) (c := r) (d := s) (by omega) (by omega) (by omega) (by omega) hq
  obtain ⟨x1, hx1⟩ : ∃ x1, x1 = 2 ^ p ||| 2 ^ q := ⟨_, rfl⟩
  rw [← hx1] at o1 o2 o3 u1 u2 u3 HN
  obtain ⟨x2, hx2⟩ : ∃ x2, x2 = x1 ||| 2 ^ r := ⟨_, rfl⟩
  rw [← hx2] at o2 o3 u2 u3 HN
  obtain ⟨x3, hx3⟩ : ∃ x3, x3 = x2 ||| 2 ^ s := ⟨_, rfl⟩
  rw [← hx3] at o3 u3 HN
  clear hx1 hx2 hx3 hP62
  have hN4 : (((pc x3 : Nat) : Int) != 4) = true := by rw [bne_iff_ne]; omega
  have HCO : Hid (∀ X, Calls Tryd.prog 69 #[.int .i64 x3] X fun e w' => e = .returned (.int .i64 (pc x3 : Nat)) ∧ X = w') := fun X => by
    have h := countOf_any (x3 : Int) X (by omega) (by omega)
    rw [Int.toNat_natCast] at h
    exact h
  clear hc hg hvs hT D0 HX HG0 hq v1 v2 v3 v4
  go_enter Tryd.func25, Tryd.ntmps25
  go_wp2_with fail
  rw [← hW]
  clear hW
  refine hv.mono ?_
  rintro e w1 ⟨rfl, hb1⟩
  have q1 := hb1.size
  have HR := Lib.hid ((hb1.block (w.heap.size + 1) (by omega)).trans HR0.out)
  have HD := Lib.hid (HD0.out.trans (hb1.mono HD0.out.size))
  clear hb1 hv
  obtain ⟨r0, r1, g0, g1⟩ := two_cells HR.out
  go_wp2_with fail
  go_quiet ((go_at_call 69; exact qsame (HCO.out _)))
  go_wp2
  have hfin := two_set (a := .int .i64 0) (b := .slice none 0 0) HR.out
  refine bodyPost_ret (v := .tuple #[.agg #[.int .i64 0, .slice none 0 0], .int .i64 2]) (results_cell2 (p := 10) (u := 11) (ty := 26) rfl _ _ (w.heap.size + 1) 26 _ (0, 0) _ rfl hfin Tryd.underlying26 rfl (by exact info27)) rfl ⟨⟨_, rfl, Own.nil _ _⟩, ?_⟩
  exact ((drewN_below HD.out _).setCell (p := ⟨w.heap.size + 1, 0, none⟩) (by simp) _).setCell (p := ⟨w.heap.size + 1, 1, none⟩) (by simp) _

set_option maxHeartbeats 6400000 in
theorem implEx_state (b off cap : Nat) (zs : List Int) (p q r s : Nat) (w : World) (hb : b < w.heap.size) (hc : Cells w b off zs) (hg : isG zs.length zs = true) (hvs : vsOk zs.length [(p : Int), (q : Int), (r : Int), (s : Int)] 4 = true) (hT : Tab w) (hf : Four zs.length p q r s) (z1 z2 z3 z4 : Bool) (hz1 : bt (el zs p) q = z1) (hz2 : bt (el zs r) s = z2) (hz3 : bt (el zs p) r = z3) (hz4 : bt (el zs q) s = z4) (hq : (z1 && z2 && !z3 && !z4) = false) :
    Calls Tryd.prog 25 #[.agg #[.int .i64 zs.length, .slice (some ⟨b, off, none⟩) zs.length cap], .int .i64 p, .int .i64 q, .int .i64 r, .int .i64 s] w fun e w' => GRes w.heap.size 0 [] 5 e w' ∧ Below w.heap.size w w' := by
  obtain ⟨h1a, h1b, -, -, -⟩ := isG_parts hg
  have k1 := hf.ha; have k2 := hf.hb; have k3 := hf.hc; have k4 := hf.hd
  obtain ⟨W, hW⟩ : ∃ W, W = ((w.alloc (.cells #[.int .i64 zs.length, .slice (some ⟨b, off, none⟩) zs.length cap] 26)).alloc (.cells #[.int .i64 0, .slice none 0 0] 26)).alloc (.cells #[.int .i64 p, .int .i64 q, .int .i64 r, .int .i64 s] 2) := ⟨_, rfl⟩
  have D0 : Below w.heap.size w W := by rw [hW]; exact (((Below.refl _ _).alloc (Nat.le_refl _) _).alloc (by simp) _).alloc (by simp; omega) _
  have hsz : w.heap.size + 3 ≤ W.heap.size := by rw [hW]; simp
  have HR0 : Hid (W.heap[w.heap.size + 1]? = some (.cells #[.int .i64 0, .slice none 0 0] 26 (0, 0))) := by show _ = _; rw [hW]; exact heap_old_at (heap_new_at _ _ _ (by simp)) _
  have HX : Hid (Cells W (w.heap.size + 1 + 1) 0 [(p : Int), (q : Int), (r : Int), (s : Int)]) := by
    show Cells _ _ _ _
    rw [hW]
    exact cells4 (heap_new_at _ _ _ (by simp))
  have HG0 : Hid (GBox W w.heap.size zs.length b off cap zs) := by
    show GBox _ _ _ _ _ _ _
    rw [hW]
    exact ((GBox.new (n := zs.length) (cap := cap) hb hc).below ((Below.refl _ _).alloc (by simp) _)).below ((Below.refl _ _).alloc (by simp) _)
  have hv := chk_some zs.length b off cap zs (w.heap.size + 1 + 1) 0 4 [(p : Int), (q : Int), (r : Int), (s : Int)] W HG0.out.lb HG0.out.cells (by omega) HX.out hg (by omega) (by simp) (hT.belowAll D0)
  rw [vc_yes hvs] at hv
  have HD0 := Lib.hid D0
  have hwp := i64_pow (p : Int) (by omega)
  rw [Int.toNat_natCast] at hwp
  have h0p : (0 : Int) ≤ p := by omega
  have hmp : (p : Int) ≤ 62 := by omega
  have hwq := i64_pow (q : Int) (by omega)
  rw [Int.toNat_natCast] at hwq
  have h0q : (0 : Int) ≤ q := by omega
  have hmq : (q : Int) ≤ 62 := by omega
  have hwr := i64_pow (r : Int) (by omega)
  rw [Int.toNat_natCast] at hwr
  have h0r : (0 : Int) ≤ r := by omega
  have hmr : (r : Int) ≤ 62 := by omega
  have hws := i64_pow (s : Int) (by omega)
  rw [Int.toNat_natCast] at hws
  have h0s : (0 : Int) ≤ s := by omega
  have hms : (s : Int) ≤ 62 := by omega
  have hP62 : 2 ^ p < 2 ^ 62 := Nat.pow_lt_pow_right (by decide) (by omega)
  obtain ⟨o1, u1⟩ := or_pows (x := 2 ^ p) (b := q) hP62 (by omega)
  rw [show (((2 ^ p : Nat)) : Int) = (2 : Int) ^ p by simp] at o1
  obtain ⟨o2, u2⟩ := or_pows (x := 2 ^ p ||| 2 ^ q) (b := r) u1 (by omega)
  obtain ⟨o3, u3⟩ := or_pows (x := 2 ^ p ||| 2 ^ q ||| 2 ^ r) (b := s) u2 (by omega)
  have HN : pc (2 ^ p ||| 2 ^ q ||| 2 ^ r ||| 2 ^ s) = 4 := cnt4_yes (by omega) hf
  obtain ⟨x1, hx1⟩ : ∃ x1, x1 = 2 ^ p ||| 2 ^ q := ⟨_, rfl⟩
  rw [← hx1] at o1 o2 o3 u1 u2 u3 HN
  obtain ⟨x2, hx2⟩ : ∃ x2, x2 = x1 ||| 2 ^ r := ⟨_, rfl⟩
  rw [← hx2] at o2 o3 u2 u3 HN
  obtain ⟨x3, hx3⟩ : ∃ x3, x3 = x2 ||| 2 ^ s := ⟨_, rfl⟩
  rw [← hx3] at o3 u3 HN
  clear hx1 hx2 hx3 hP62
  have HCO : Hid (∀ X, Calls Tryd.prog 69 #[.int .i64 x3] X fun e w' => e = .returned (.int .i64 4) ∧ X = w') := fun X => by
    have h := countOf_any (x3 : Int) X (by omega) (by omega)
    rw [Int.toNat_natCast] at h
    rw [HN] at h
    exact h
  have HS1 := Lib.hid hz1; have HS2 := Lib.hid hz2; have HS3 := Lib.hid hz3; have HS4 := Lib.hid hz4
  have hzb : ∀ i, i < zs.length → 0 ≤ el zs i ∧ el zs i ≤ 9223372036854775807 := isG_row_ok hg
  have HZ := Lib.hid hzb
  clear hzb
  clear hc hg hvs hT D0 HX hf hz1 hz2 hz3 hz4 HN
  cases z1 with
  | false =>
    go_enter Tryd.func25, Tryd.ntmps25
    go_wp2_with fail
    rw [← hW]
    clear hW
    refine hv.mono ?_
    rintro e w1 ⟨rfl, hb1⟩
    have q1 := hb1.size
    have HR := Lib.hid ((hb1.block (w.heap.size + 1) (by omega)).trans HR0.out)
    have HD := Lib.hid (HD0.out.trans (hb1.mono HD0.out.size))
    clear hv
    go_wp2_with fail
    go_quiet ((go_at_call 69; exact qsame (HCO.out _)))
    go_upto_region 6 with fail
    generalize hw2 : w1.drewN _ = w2
    have hd2 : Below w1.heap.size w1 w2 := by rw [← hw2]; exact drewN_below (Below.refl _ _) _
    have hs2 : w2.heap.size = w1.heap.size := by rw [← hw2]; rfl
    clear hw2
    have hbW2 : Below W.heap.size W w2 := hb1.trans (hd2.mono hb1.size)
    have G2 := HG0.out.below (hbW2.mono (by omega))
    have b0 := G2.b0
    have b1 := G2.b1
    have cp := G2.cells p k1
    have cq := G2.cells q k2
    have cr := G2.cells r k3
    have HR2 := Lib.hid ((hbW2.block (w.heap.size + 1) (by omega)).trans HR0.out)
    have HD2 := Lib.hid (HD0.out.trans (hbW2.mono HD0.out.size))
    have hs3 : w.heap.size + 3 ≤ w2.heap.size := by omega
    have S1 : Hid (∀ X, Calls Tryd.prog 70 #[.int .i64 (el zs p), .int .i64 q] X fun e w' => e = .returned (.bool false) ∧ X = w') := fun X => by
      have hzx := HZ.out p (by omega)
      have h := hasM_any (el zs p).toNat q X (by omega) (by omega)
      rw [Int.toNat_of_nonneg hzx.1] at h
      have hr : (el zs p).toNat.testBit q = false := HS1.out
      rw [hr] at h
      exact h
    have S2 : Hid (∀ X, Calls Tryd.prog 70 #[.int .i64 (el zs r), .int .i64 s] X fun e w' => e = .returned (.bool z2) ∧ X = w') := fun X => by
      have hzx := HZ.out r (by omega)
      have h := hasM_any (el zs r).toNat s X (by omega) (by omega)
      rw [Int.toNat_of_nonneg hzx.1] at h
      have hr : (el zs r).toNat.testBit s = z2 := HS2.out
      rw [hr] at h
      exact h
    have S3 : Hid (∀ X, Calls Tryd.prog 70 #[.int .i64 (el zs p), .int .i64 r] X fun e w' => e = .returned (.bool z3) ∧ X = w') := fun X => by
      have hzx := HZ.out p (by omega)
      have h := hasM_any (el zs p).toNat r X (by omega) (by omega)
      rw [Int.toNat_of_nonneg hzx.1] at h
      have hr : (el zs p).toNat.testBit r = z3 := HS3.out
      rw [hr] at h
      exact h
    have S4 : Hid (∀ X, Calls Tryd.prog 70 #[.int .i64 (el zs q), .int .i64 s] X fun e w' => e = .returned (.bool z4) ∧ X = w') := fun X => by
      have hzx := HZ.out q (by omega)
      have h := hasM_any (el zs q).toNat s X (by omega) (by omega)
      rw [Int.toNat_of_nonneg hzx.1] at h
      have hr : (el zs q).toNat.testBit s = z4 := HS4.out
      rw [hr] at h
      exact h
    obtain ⟨r0, r1, g0, g1⟩ := two_cells HR2.out
    clear hb1 hd2 hs2
    go_wp2_with (go_at_call 70; first | (with_reducible refine (S1.out _).mono ?_; rintro e w9 ⟨rfl, rfl⟩) | (with_reducible refine (S2.out _).mono ?_; rintro e w9 ⟨rfl, rfl⟩) | (with_reducible refine (S3.out _).mono ?_; rintro e w9 ⟨rfl, rfl⟩) | (with_reducible refine (S4.out _).mono ?_; rintro e w9 ⟨rfl, rfl⟩))
    have hfin := two_set (a := .int .i64 0) (b := .slice none 0 0) HR2.out
    refine bodyPost_ret (v := .tuple #[.agg #[.int .i64 0, .slice none 0 0], .int .i64 5]) (results_cell2 (p := 10) (u := 11) (ty := 26) rfl _ _ (w.heap.size + 1) 26 _ (0, 0) _ rfl hfin Tryd.underlying26 rfl (by exact info27)) rfl ⟨⟨_, rfl, Own.nil _ _⟩, ?_⟩
    exact (HD2.out.setCell (p := ⟨w.heap.size + 1, 0, none⟩) (by simp) _).setCell (p := ⟨w.heap.size + 1, 1, none⟩) (by simp) _
  | true =>
    cases z2 with
    | false =>
      go_enter Tryd.func25, Tryd.ntmps25
      go_wp2_with fail
      rw [← hW]
      clear hW
      refine hv.mono ?_
      rintro e w1 ⟨rfl, hb1⟩
      have q1 := hb1.size
      have HR := Lib.hid ((hb1.block (w.heap.size + 1) (by omega)).trans HR0.out)
      have HD := Lib.hid (HD0.out.trans (hb1.mono HD0.out.size))
      clear hv
      go_wp2_with fail
      go_quiet ((go_at_call 69; exact qsame (HCO.out _)))
      go_upto_region 6 with fail
      generalize hw2 : w1.drewN _ = w2
      have hd2 : Below w1.heap.size w1 w2 := by rw [← hw2]; exact drewN_below (Below.refl _ _) _
      have hs2 : w2.heap.size = w1.heap.size := by rw [← hw2]; rfl
      clear hw2
      have hbW2 : Below W.heap.size W w2 := hb1.trans (hd2.mono hb1.size)
      have G2 := HG0.out.below (hbW2.mono (by omega))
      have b0 := G2.b0
      have b1 := G2.b1
      have cp := G2.cells p k1
      have cq := G2.cells q k2
      have cr := G2.cells r k3
      have HR2 := Lib.hid ((hbW2.block (w.heap.size + 1) (by omega)).trans HR0.out)
      have HD2 := Lib.hid (HD0.out.trans (hbW2.mono HD0.out.size))
      have hs3 : w.heap.size + 3 ≤ w2.heap.size := by omega
      have S1 : Hid (∀ X, Calls Tryd.prog 70 #[.int .i64 (el zs p), .int .i64 q] X fun e w' => e = .returned (.bool true) ∧ X = w') := fun X => by
        have hzx := HZ.out p (by omega)
        have h := hasM_any (el zs p).toNat q X (by omega) (by omega)
        rw [Int.toNat_of_nonneg hzx.1] at h
        have hr : (el zs p).toNat.testBit q = true := HS1.out
        rw [hr] at h
        exact h
      have S2 : Hid (∀ X, Calls Tryd.prog 70 #[.int .i64 (el zs r), .int .i64 s] X fun e w' => e = .returned (.bool false) ∧ X = w') := fun X => by
        have hzx := HZ.out r (by omega)
        have h := hasM_any (el zs r).toNat s X (by omega) (by omega)
        rw [Int.toNat_of_nonneg hzx.1] at h
        have hr : (el zs r).toNat.testBit s = false := HS2.out
        rw [hr] at h
        exact h
      have S3 : Hid (∀ X, Calls Tryd.prog 70 #[.int .i64 (el zs p), .int .i64 r] X fun e w' => e = .returned (.bool z3) ∧ X = w') := fun X => by
        have hzx := HZ.out p (by omega)
        have h := hasM_any (el zs p).toNat r X (by omega) (by omega)
        rw [Int.toNat_of_nonneg hzx.1] at h
        have hr : (el zs p).toNat.testBit r = z3 := HS3.out
        rw [hr] at h
        exact h
      have S4 : Hid (∀ X, Calls Tryd.prog 70 #[.int .i64 (el zs q), .int .i64 s] X fun e w' => e = .returned (.bool z4) ∧ X = w') := fun X => by
        have hzx := HZ.out q (by omega)
        have h := hasM_any (el zs q).toNat s X (by omega) (by omega)
        rw [Int.toNat_of_nonneg hzx.1] at h
        have hr : (el zs q).toNat.testBit s = z4 := HS4.out
        rw [hr] at h
        exact h
      obtain ⟨r0, r1, g0, g1⟩ := two_cells HR2.out
      clear hb1 hd2 hs2
      go_wp2_with (go_at_call 70; first | (with_reducible refine (S1.out _).mono ?_; rintro e w9 ⟨rfl, rfl⟩) | (with_reducible refine (S2.out _).mono ?_; rintro e w9 ⟨rfl, rfl⟩) | (with_reducible refine (S3.out _).mono ?_; rintro e w9 ⟨rfl, rfl⟩) | (with_reducible refine (S4.out _).mono ?_; rintro e w9 ⟨rfl, rfl⟩))
      have hfin := two_set (a := .int .i64 0) (b := .slice none 0 0) HR2.out
      refine bodyPost_ret (v := .tuple #[.agg #[.int .i64 0, .slice none 0 0], .int .i64 5]) (results_cell2 (p := 10) (u := 11) (ty := 26) rfl _ _ (w.heap.size + 1) 26 _ (0, 0) _ rfl hfin Tryd.underlying26 rfl (by exact info27)) rfl ⟨⟨_, rfl, Own.nil _ _⟩, ?_⟩
      exact (HD2.out.setCell (p := ⟨w.heap.size + 1, 0, none⟩) (by simp) _).setCell (p := ⟨w.heap.size + 1, 1, none⟩) (by simp) _
    | true =>
      cases z3 with
      | true =>
        go_enter Tryd.func25, Tryd.ntmps25
        go_wp2_with fail
        rw [← hW]
        clear hW
        refine hv.mono ?_
        rintro e w1 ⟨rfl, hb1⟩
        have q1 := hb1.size
        have HR := Lib.hid ((hb1.block (w.heap.size + 1) (by omega)).trans HR0.out)
        have HD := Lib.hid (HD0.out.trans (hb1.mono HD0.out.size))
        clear hv
        go_wp2_with fail
        go_quiet ((go_at_call 69; exact qsame (HCO.out _)))
        go_upto_region 6 with fail
        generalize hw2 : w1.drewN _ = w2
        have hd2 : Below w1.heap.size w1 w2 := by rw [← hw2]; exact drewN_below (Below.refl _ _) _
        have hs2 : w2.heap.size = w1.heap.size := by rw [← hw2]; rfl
        clear hw2
        have hbW2 : Below W.heap.size W w2 := hb1.trans (hd2.mono hb1.size)
        have G2 := HG0.out.below (hbW2.mono (by omega))
        have b0 := G2.b0
        have b1 := G2.b1
        have cp := G2.cells p k1
        have cq := G2.cells q k2
        have cr := G2.cells r k3
        have HR2 := Lib.hid ((hbW2.block (w.heap.size + 1) (by omega)).trans HR0.out)
        have HD2 := Lib.hid (HD0.out.trans (hbW2.mono HD0.out.size))
        have hs3 : w.heap.size + 3 ≤ w2.heap.size := by omega
        have S1 : Hid (∀ X, Calls Tryd.prog 70 #[.int .i64 (el zs p), .int .i64 q] X fun e w' => e = .returned (.bool true) ∧ X = w') := fun X => by
          have hzx := HZ.out p (by omega)
          have h := hasM_any (el zs p).toNat q X (by omega) (by omega)
          rw [Int.toNat_of_nonneg hzx.1] at h
          have hr : (el zs p).toNat.testBit q = true := HS1.out
          rw [hr] at h
          exact h
        have S2 : Hid (∀ X, Calls Tryd.prog 70 #[.int .i64 (el zs r), .int .i64 s] X fun e w' => e = .returned (.bool true) ∧ X = w') := fun X => by
          have hzx := HZ.out r (by omega)
          have h := hasM_any (el zs r).toNat s X (by omega) (by omega)
          rw [Int.toNat_of_nonneg hzx.1] at h
          have hr : (el zs r).toNat.testBit s = true := HS2.out
          rw [hr] at h
          exact h
        have S3 : Hid (∀ X, Calls Tryd.prog 70 #[.int .i64 (el zs p), .int .i64 r] X fun e w' => e = .returned (.bool true) ∧ X = w') := fun X => by
          have hzx := HZ.out p (by omega)
          have h := hasM_any (el zs p).toNat r X (by omega) (by omega)
          rw [Int.toNat_of_nonneg hzx.1] at h
          have hr : (el zs p).toNat.testBit r = true := HS3.out
          rw [hr] at h
          exact h
        have S4 : Hid (∀ X, Calls Tryd.prog 70 #[.int .i64 (el zs q), .int .i64 s] X fun e w' => e = .returned (.bool z4) ∧ X = w') := fun X => by
          have hzx := HZ.out q (by omega)
          have h := hasM_any (el zs q).toNat s X (by omega) (by omega)
          rw [Int.toNat_of_nonneg hzx.1] at h
          have hr : (el zs q).toNat.testBit s = z4 := HS4.out
          rw [hr] at h
          exact h
        obtain ⟨r0, r1, g0, g1⟩ := two_cells HR2.out
        clear hb1 hd2 hs2
        go_wp2_with (go_at_call 70; first | (with_reducible refine (S1.out _).mono ?_; rintro e w9 ⟨rfl, rfl⟩) | (with_reducible refine (S2.out _).mono ?_; rintro e w9 ⟨rfl, rfl⟩) | (with_reducible refine (S3.out _).mono ?_; rintro e w9 ⟨rfl, rfl⟩) | (with_reducible refine (S4.out _).mono ?_; rintro e w9 ⟨rfl, rfl⟩))
        have hfin := two_set (a := .int .i64 0) (b := .slice none 0 0) HR2.out
        refine bodyPost_ret (v := .tuple #[.agg #[.int .i64 0, .slice none 0 0], .int .i64 5]) (results_cell2 (p := 10) (u := 11) (ty := 26) rfl _ _ (w.heap.size + 1) 26 _ (0, 0) _ rfl hfin Tryd.underlying26 rfl (by exact info27)) rfl ⟨⟨_, rfl, Own.nil _ _⟩, ?_⟩
        exact (HD2.out.setCell (p := ⟨w.heap.size + 1, 0, none⟩) (by simp) _).setCell (p := ⟨w.heap.size + 1, 1, none⟩) (by simp) _
      | false =>
        cases z4 with
        | true =>
          go_enter Tryd.func25, Tryd.ntmps25
          go_wp2_with fail
          rw [← hW]
          clear hW
          refine hv.mono ?_
          rintro e w1 ⟨rfl, hb1⟩
          have q1 := hb1.size
          have HR := Lib.hid ((hb1.block (w.heap.size + 1) (by omega)).trans HR0.out)
          have HD := Lib.hid (HD0.out.trans (hb1.mono HD0.out.size))
          clear hv
          go_wp2_with fail
          go_quiet ((go_at_call 69; exact qsame (HCO.out _)))
          go_upto_region 6 with fail
          generalize hw2 : w1.drewN _ = w2
          have hd2 : Below w1.heap.size w1 w2 := by rw [← hw2]; exact drewN_below (Below.refl _ _) _
          have hs2 : w2.heap.size = w1.heap.size := by rw [← hw2]; rfl
          clear hw2
          have hbW2 : Below W.heap.size W w2 := hb1.trans (hd2.mono hb1.size)
          have G2 := HG0.out.below (hbW2.mono (by omega))
          have b0 := G2.b0
          have b1 := G2.b1
          have cp := G2.cells p k1
          have cq := G2.cells q k2
          have cr := G2.cells r k3
          have HR2 := Lib.hid ((hbW2.block (w.heap.size + 1) (by omega)).trans HR0.out)
          have HD2 := Lib.hid (HD0.out.trans (hbW2.mono HD0.out.size))
          have hs3 : w.heap.size + 3 ≤ w2.heap.size := by omega
          have S1 : Hid (∀ X, Calls Tryd.prog 70 #[.int .i64 (el zs p), .int .i64 q] X fun e w' => e = .returned (.bool true) ∧ X = w') := fun X => by
            have hzx := HZ.out p (by omega)
            have h := hasM_any (el zs p).toNat q X (by omega) (by omega)
            rw [Int.toNat_of_nonneg hzx.1] at h
            have hr : (el zs p).toNat.testBit q = true := HS1.out
            rw [hr] at h
            exact h
          have S2 : Hid (∀ X, Calls Tryd.prog 70 #[.int .i64 (el zs r), .int .i64 s] X fun e w' => e = .returned (.bool true) ∧ X = w') := fun X => by
            have hzx := HZ.out r (by omega)
            have h := hasM_any (el zs r).toNat s X (by omega) (by omega)
            rw [Int.toNat_of_nonneg hzx.1] at h
            have hr : (el zs r).toNat.testBit s = true := HS2.out
            rw [hr] at h
            exact h
          have S3 : Hid (∀ X, Calls Tryd.prog 70 #[.int .i64 (el zs p), .int .i64 r] X fun e w' => e = .returned (.bool false) ∧ X = w') := fun X => by
            have hzx := HZ.out p (by omega)
            have h := hasM_any (el zs p).toNat r X (by omega) (by omega)
            rw [Int.toNat_of_nonneg hzx.1] at h
            have hr : (el zs p).toNat.testBit r = false := HS3.out
            rw [hr] at h
            exact h
          have S4 : Hid (∀ X, Calls Tryd.prog 70 #[.int .i64 (el zs q), .int .i64 s] X fun e w' => e = .returned (.bool true) ∧ X = w') := fun X => by
            have hzx := HZ.out q (by omega)
            have h := hasM_any (el zs q).toNat s X (by omega) (by omega)
            rw [Int.toNat_of_nonneg hzx.1] at h
            have hr : (el zs q).toNat.testBit s = true := HS4.out
            rw [hr] at h
            exact h
          obtain ⟨r0, r1, g0, g1⟩ := two_cells HR2.out
          clear hb1 hd2 hs2
          go_wp2_with (go_at_call 70; first | (with_reducible refine (S1.out _).mono ?_; rintro e w9 ⟨rfl, rfl⟩) | (with_reducible refine (S2.out _).mono ?_; rintro e w9 ⟨rfl, rfl⟩) | (with_reducible refine (S3.out _).mono ?_; rintro e w9 ⟨rfl, rfl⟩) | (with_reducible refine (S4.out _).mono ?_; rintro e w9 ⟨rfl, rfl⟩))
          have hfin := two_set (a := .int .i64 0) (b := .slice none 0 0) HR2.out
          refine bodyPost_ret (v := .tuple #[.agg #[.int .i64 0, .slice none 0 0], .int .i64 5]) (results_cell2 (p := 10) (u := 11) (ty := 26) rfl _ _ (w.heap.size + 1) 26 _ (0, 0) _ rfl hfin Tryd.underlying26 rfl (by exact info27)) rfl ⟨⟨_, rfl, Own.nil _ _⟩, ?_⟩
          exact (HD2.out.setCell (p := ⟨w.heap.size + 1, 0, none⟩) (by simp) _).setCell (p := ⟨w.heap.size + 1, 1, none⟩) (by simp) _
        | false => exact absurd hq (by decide)

set_option maxHeartbeats 6400000 in
theorem implEx_yes (b off cap : Nat) (zs : List Int) (p q r s : Nat) (w : World) (hb : b < w.heap.size) (hc : Cells w b off zs) (hg : isG zs.length zs = true) (hvs : vsOk zs.length [(p : Int), (q : Int), (r : Int), (s : Int)] 4 = true) (hT : Tab w) (hf : Four zs.length p q r s) (hz1 : bt (el zs p) q = true) (hz2 : bt (el zs r) s = true) (hz3 : bt (el zs p) r = false) (hz4 : bt (el zs q) s = false) :
    Calls Tryd.prog 25 #[.agg #[.int .i64 zs.length, .slice (some ⟨b, off, none⟩) zs.length cap], .int .i64 p, .int .i64 q, .int .i64 r, .int .i64 s] w fun e w' => GRes w.heap.size zs.length (exZ zs p q r s 4) 0 e w' ∧ Below w.heap.size w w' := by
  obtain ⟨h1a, h1b, -, -, -⟩ := isG_parts hg
  have k1 := hf.ha; have k2 := hf.hb; have k3 := hf.hc; have k4 := hf.hd
  obtain ⟨W, hW⟩ : ∃ W, W = ((w.alloc (.cells #[.int .i64 zs.length, .slice (some ⟨b, off, none⟩) zs.length cap] 26)).alloc (.cells #[.int .i64 0, .slice none 0 0] 26)).alloc (.cells #[.int .i64 p, .int .i64 q, .int .i64 r, .int .i64 s] 2) := ⟨_, rfl⟩
  have D0 : Below w.heap.size w W := by rw [hW]; exact (((Below.refl _ _).alloc (Nat.le_refl _) _).alloc (by simp) _).alloc (by simp; omega) _
  have hsz : w.heap.size + 3 ≤ W.heap.size := by rw [hW]; simp
  have HR0 : Hid (W.heap[w.heap.size + 1]? = some (.cells #[.int .i64 0, .slice none 0 0] 26 (0, 0))) := by show _ = _; rw [hW]; exact heap_old_at (heap_new_at _ _ _ (by simp)) _
  have HX : Hid (Cells W (w.heap.size + 1 + 1) 0 [(p : Int), (q : Int), (r : Int), (s : Int)]) := by
    show Cells _ _ _ _
    rw [hW]
    exact cells4 (heap_new_at _ _ _ (by simp))
  have HG0 : Hid (GBox W w.heap.size zs.length b off cap zs) := by
    show GBox _ _ _ _ _ _ _
    rw [hW]
    exact ((GBox.new (n := zs.length) (cap := cap) hb hc).below ((Below.refl _ _).alloc (by simp) _)).below ((Below.refl _ _).alloc (by simp) _)
  have hv := chk_some zs.length b off cap zs (w.heap.size + 1 + 1) 0 4 [(p : Int), (q : Int), (r : Int), (s : Int)] W HG0.out.lb HG0.out.cells (by omega) HX.out hg (by omega) (by simp) (hT.belowAll D0)
  rw [vc_yes hvs] at hv
  have HD0 := Lib.hid D0
  have hwp := i64_pow (p : Int) (by omega)
  rw [Int.toNat_natCast] at hwp
  have h0p : (0 : Int) ≤ p := by omega
  have hmp : (p : Int) ≤ 62 := by omega
  have hwq := i64_pow (q : Int) (by omega)
  rw [Int.toNat_natCast] at hwq
  have h0q : (0 : Int) ≤ q := by omega
  have hmq : (q : Int) ≤ 62 := by omega
  have hwr := i64_pow (r : Int) (by omega)
  rw [Int.toNat_natCast] at hwr
  have h0r : (0 : Int) ≤ r := by omega
  have hmr : (r : Int) ≤ 62 := by omega
  have hws := i64_pow (s : Int) (by omega)
  rw [Int.toNat_natCast] at hws
  have h0s : (0 : Int) ≤ s := by omega
  have hms : (s : Int) ≤ 62 := by omega
  have hP62 : 2 ^ p < 2 ^ 62 := Nat.pow_lt_pow_right (by decide) (by omega)
  obtain ⟨o1, u1⟩ := or_pows (x := 2 ^ p) (b := q) hP62 (by omega)
  rw [show (((2 ^ p : Nat)) : Int) = (2 : Int) ^ p by simp] at o1
  obtain ⟨o2, u2⟩ := or_pows (x := 2 ^ p ||| 2 ^ q) (b := r) u1 (by omega)
  obtain ⟨o3, u3⟩ := or_pows (x := 2 ^ p ||| 2 ^ q ||| 2 ^ r) (b := s) u2 (by omega)
  have HN : pc (2 ^ p ||| 2 ^ q ||| 2 ^ r ||| 2 ^ s) = 4 := cnt4_yes (by omega) hf
  obtain ⟨x1, hx1⟩ : ∃ x1, x1 = 2 ^ p ||| 2 ^ q := ⟨_, rfl⟩
  rw [← hx1] at o1 o2 o3 u1 u2 u3 HN
  obtain ⟨x2, hx2⟩ : ∃ x2, x2 = x1 ||| 2 ^ r := ⟨_, rfl⟩
  rw [← hx2] at o2 o3 u2 u3 HN
  obtain ⟨x3, hx3⟩ : ∃ x3, x3 = x2 ||| 2 ^ s := ⟨_, rfl⟩
  rw [← hx3] at o3 u3 HN
  clear hx1 hx2 hx3 hP62
  have HCO : Hid (∀ X, Calls Tryd.prog 69 #[.int .i64 x3] X fun e w' => e = .returned (.int .i64 4) ∧ X = w') := fun X => by
    have h := countOf_any (x3 : Int) X (by omega) (by omega)
    rw [Int.toNat_natCast] at h
    rw [HN] at h
    exact h
  have HS1 := Lib.hid hz1; have HS2 := Lib.hid hz2; have HS3 := Lib.hid hz3; have HS4 := Lib.hid hz4
  have hzb : ∀ i, i < zs.length → 0 ≤ el zs i ∧ el zs i ≤ 9223372036854775807 := isG_row_ok hg
  have HZ := Lib.hid hzb
  clear hzb
  have HGG := Lib.hid hg
  have HF := Lib.hid hf
  clear hc hg hvs hT D0 HX hf hz1 hz2 hz3 hz4 HN
  go_enter Tryd.func25, Tryd.ntmps25
  go_wp2_with fail
  rw [← hW]
  clear hW
  refine hv.mono ?_
  rintro e w1 ⟨rfl, hb1⟩
  have q1 := hb1.size
  have HR := Lib.hid ((hb1.block (w.heap.size + 1) (by omega)).trans HR0.out)
  have HD := Lib.hid (HD0.out.trans (hb1.mono HD0.out.size))
  clear hv
  go_wp2_with fail
  go_quiet ((go_at_call 69; exact qsame (HCO.out _)))
  go_upto_region 6 with fail
  generalize hw2 : w1.drewN _ = w2
  have hd2 : Below w1.heap.size w1 w2 := by rw [← hw2]; exact drewN_below (Below.refl _ _) _
  have hs2 : w2.heap.size = w1.heap.size := by rw [← hw2]; rfl
  clear hw2
  have hbW2 : Below W.heap.size W w2 := hb1.trans (hd2.mono hb1.size)
  have G2 := HG0.out.below (hbW2.mono (by omega))
  have b0 := G2.b0
  have b1 := G2.b1
  have cp := G2.cells p k1
  have cq := G2.cells q k2
  have cr := G2.cells r k3
  have HR2 := Lib.hid ((hbW2.block (w.heap.size + 1) (by omega)).trans HR0.out)
  have HD2 := Lib.hid (HD0.out.trans (hbW2.mono HD0.out.size))
  have hs3 : w.heap.size + 3 ≤ w2.heap.size := by omega
  have S1 : Hid (∀ X, Calls Tryd.prog 70 #[.int .i64 (el zs p), .int .i64 q] X fun e w' => e = .returned (.bool true) ∧ X = w') := fun X => by
    have hzx := HZ.out p (by omega)
    have h := hasM_any (el zs p).toNat q X (by omega) (by omega)
    rw [Int.toNat_of_nonneg hzx.1] at h
    have hr : (el zs p).toNat.testBit q = true := HS1.out
    rw [hr] at h
    exact h
  have S2 : Hid (∀ X, Calls Tryd.prog 70 #[.int .i64 (el zs r), .int .i64 s] X fun e w' => e = .returned (.bool true) ∧ X = w') := fun X => by
    have hzx := HZ.out r (by omega)
    have h := hasM_any (el zs r).toNat s X (by omega) (by omega)
    rw [Int.toNat_of_nonneg hzx.1] at h
    have hr : (el zs r).toNat.testBit s = true := HS2.out
    rw [hr] at h
    exact h
  have S3 : Hid (∀ X, Calls Tryd.prog 70 #[.int .i64 (el zs p), .int .i64 r] X fun e w' => e = .returned (.bool false) ∧ X = w') := fun X => by
    have hzx := HZ.out p (by omega)
    have h := hasM_any (el zs p).toNat r X (by omega) (by omega)
    rw [Int.toNat_of_nonneg hzx.1] at h
    have hr : (el zs p).toNat.testBit r = false := HS3.out
    rw [hr] at h
    exact h
  have S4 : Hid (∀ X, Calls Tryd.prog 70 #[.int .i64 (el zs q), .int .i64 s] X fun e w' => e = .returned (.bool false) ∧ X = w') := fun X => by
    have hzx := HZ.out q (by omega)
    have h := hasM_any (el zs q).toNat s X (by omega) (by omega)
    rw [Int.toNat_of_nonneg hzx.1] at h
    have hr : (el zs q).toNat.testBit s = false := HS4.out
    rw [hr] at h
    exact h
  have hn0 : 0 < zs.length := by omega
  have hl62 : zs.length ≤ 62 := by omega
  have HCP := Lib.hid (copyOf_some zs.length b off cap zs w2 G2.lb G2.cells hl62)
  clear hb1 hd2 hs2
  go_wp2_with (go_at_call 70; first | (with_reducible refine (S1.out _).mono ?_; rintro e w9 ⟨rfl, rfl⟩) | (with_reducible refine (S2.out _).mono ?_; rintro e w9 ⟨rfl, rfl⟩) | (with_reducible refine (S3.out _).mono ?_; rintro e w9 ⟨rfl, rfl⟩) | (with_reducible refine (S4.out _).mono ?_; rintro e w9 ⟨rfl, rfl⟩))
  refine HCP.out.mono ?_
  rintro e w3 ⟨u, rfl, hO3, hb3⟩
  obtain ⟨g, cu, rfl, hg0, hg1⟩ := own_some8 hO3 rfl hn0
  obtain ⟨Y, hY⟩ : ∃ Y, Y = (w3.alloc (.cells #[.int .i64 zs.length, .slice (some ⟨g, 0, none⟩) zs.length cu] 26)).alloc (.cells #[.int .i64 p, .int .i64 q, .int .i64 r, .int .i64 s, .int .i64 p, .int .i64 r, .int .i64 q, .int .i64 s] 68) := ⟨_, rfl⟩
  have hbY : Below w3.heap.size w3 Y := by rw [hY]; exact ((Below.refl _ _).alloc (Nat.le_refl _) _).alloc (by simp) _
  have q3 := hb3.size
  have HX0 : Hid (Y.heap[w3.heap.size]? = some (.cells #[.int .i64 zs.length, .slice (some ⟨g, 0, none⟩) zs.length cu] 26 (0, 0))) := by show _ = _; rw [hY]; exact heap_old_at (World.alloc_heap_new w3 _) _
  have HP0 : Hid (Y.heap[w3.heap.size + 1]? = some (.cells #[.int .i64 p, .int .i64 q, .int .i64 r, .int .i64 s, .int .i64 p, .int .i64 r, .int .i64 q, .int .i64 s] 68 (0, 0))) := by show _ = _; rw [hY]; exact heap_new_at _ _ _ (by simp)
  have HO0 : Hid (Own Y w2.heap.size (.slice (some ⟨g, 0, none⟩) zs.length cu) (exZ zs p q r s 0)) := hO3.below hbY
  have HB0 := Lib.hid (hb3.trans (hbY.mono hb3.size))
  have qY : w3.heap.size + 2 ≤ Y.heap.size := by rw [hY]; simp
  clear b0 b1 cp cq cr hO3 hb3 hbY HCP S1 S2 S3 S4 G2 hbW2
  go_wp2_with fail
  rw [← hY]
  clear hY
  obtain ⟨H, hH⟩ : ∃ H, H = w3.heap.size := ⟨_, rfl⟩
  rw [← hH] at HX0 HP0 qY hg1 q3 ⊢
  clear hH
  go_loopw [15, 94] (fun _ t wr => ∃ i : Nat, i ≤ 4 ∧ t = .int .i64 i ∧ Hid (Own wr w2.heap.size (.slice (some ⟨g, 0, none⟩) zs.length cu) (exZ zs p q r s i)) ∧ Hid (wr.heap[H]? = some (.cells #[.int .i64 zs.length, .slice (some ⟨g, 0, none⟩) zs.length cu] 26 (0, 0))) ∧ Hid (wr.heap[H + 1]? = some (.cells #[.int .i64 p, .int .i64 q, .int .i64 r, .int .i64 s, .int .i64 p, .int .i64 r, .int .i64 q, .int .i64 s] 68 (0, 0))) ∧ Hid (Below w2.heap.size w2 wr) ∧ H + 2 ≤ wr.heap.size) (fun _ t _ => 4 - (intOf t).toNat)
  case atStart => exact ⟨0, by omega, rfl, HO0, HX0, HP0, HB0, qY⟩
  case round =>
    clear HO0 HX0 HP0 HB0 qY
    obtain ⟨i, hi, rfl, HO, HX, HPB, HB, qr⟩ := hrel
    obtain ⟨x0, x1, -, -⟩ := two_cells HX.out
    have pc := fun j => cell_of_row wr (H + 1) j _ _ _ HPB.out
    have p0 : wr.cell? ⟨H + 1, 0, none⟩ = some (.int .i64 p) := pc 0
    have p1 : wr.cell? ⟨H + 1, 1, none⟩ = some (.int .i64 q) := pc 1
    have p2 : wr.cell? ⟨H + 1, 2, none⟩ = some (.int .i64 r) := pc 2
    have p3 : wr.cell? ⟨H + 1, 3, none⟩ = some (.int .i64 s) := pc 3
    have p4 : wr.cell? ⟨H + 1, 4, none⟩ = some (.int .i64 p) := pc 4
    have p5 : wr.cell? ⟨H + 1, 5, none⟩ = some (.int .i64 r) := pc 5
    have p6 : wr.cell? ⟨H + 1, 6, none⟩ = some (.int .i64 q) := pc 6
    have p7 : wr.cell? ⟨H + 1, 7, none⟩ = some (.int .i64 s) := pc 7
    clear pc
    have n1 : H < wr.heap.size := by omega
    have n2 : ¬ H = wr.heap.size := by omega
    have n3 : ¬ wr.heap.size = H := by omega
    by_cases h4 : i = 4
    · subst h4
      have HRr := Lib.hid ((HB.out.block (w.heap.size + 1) (by omega)).trans HR2.out)
      have HDr := Lib.hid (HD2.out.trans (HB.out.mono (by omega)))
      obtain ⟨r0, r1, g0', g1'⟩ := two_cells HRr.out
      clear p0 p1 p2 p3 p4 p5 p6 p7
      go_wp2
      have hfin := two_set (a := .int .i64 zs.length) (b := .slice (some ⟨g, 0, none⟩) zs.length cu) HRr.out
      refine bodyPost_ret (v := .tuple #[.agg #[.int .i64 zs.length, .slice (some ⟨g, 0, none⟩) zs.length cu], .int .i64 0]) (results_cell2 (p := 10) (u := 11) (ty := 26) rfl _ _ (w.heap.size + 1) 26 _ (0, 0) _ rfl hfin Tryd.underlying26 rfl (by exact info27)) rfl ⟨⟨_, rfl, ?_⟩, ?_⟩
      · exact (HO.out.base (by omega)).kept (grown_set (grown_set ⟨rfl, rfl, rfl, Nat.le_refl _, fun _ _ _ => rfl⟩ _ 0 _) _ 1 _) (.inr (by simp [Value.ownBlock]; omega))
      · exact (HDr.out.setCell (p := ⟨w.heap.size + 1, 0, none⟩) (by simp) _).setCell (p := ⟨w.heap.size + 1, 1, none⟩) (by simp) _
    · rcases (by omega : i = 0 ∨ i = 1 ∨ i = 2 ∨ i = 3) with rfl | rfl | rfl | rfl
      ·
        have hZ := exZ_length zs p q r s 0
        have hZg := exZ_g HGG.out HF.out 0
        have HTE : Hid (∀ X, Below wr.heap.size wr X → Calls Tryd.prog 65 #[.agg #[.int .i64 zs.length, .slice (some ⟨g, 0, none⟩) zs.length cu], .int .i64 p, .int .i64 q] X fun e w' => (∃ v, e = .returned v) ∧ Own w' w2.heap.size (.slice (some ⟨g, 0, none⟩) zs.length cu) (exZ zs p q r s 1) ∧ X.grownBy w' (some g)) := fun X hX => by
          have h := turn_any w2.heap.size g cu zs.length (exZ zs p q r s 0) p q X (by rw [hZ]; exact HO.out.below hX) (by rw [hZ]; exact k1) (by rw [hZ]; exact k2) HF.out.ab (by rw [hZ]; omega) (isG_row_ok hZg p (by rw [hZ]; exact k1)) (isG_row_ok hZg q (by rw [hZ]; exact k2))
          rw [hZ] at h
          exact h
        clear hZ hZg
        go_wp2_with (go_at_call 65; refine (HTE.out _ ((Below.refl _ _).alloc (Nat.le_refl _) _)).mono ?_; rintro e w6 ⟨⟨v6, rfl⟩, hO6, hg6⟩)
        have q6 := hg6.size
        rw [World.size_alloc] at q6
        have HO6 := Lib.hid hO6
        have HX6 := Lib.hid ((hg6.block H (by simp; omega) (by simp; omega)).trans (heap_old_at HX.out _))
        have HP6 := Lib.hid ((hg6.block (H + 1) (by simp; omega) (by simp; omega)).trans (heap_old_at HPB.out _))
        have HB6 := Lib.hid ((HB.out.alloc HB.out.size _).grown hg6 (by simp; omega) (fun q e => by cases e; omega))
        clear hO6 hg6 HTE x0 x1
        go_roundw
        case rel => exact ⟨1, by omega, by go_num, HO6, HX6, HP6, HB6, by omega⟩
        case measure => simp [intOf]
      ·
        have hZ := exZ_length zs p q r s 1
        have hZg := exZ_g HGG.out HF.out 1
        have HTE : Hid (∀ X, Below wr.heap.size wr X → Calls Tryd.prog 65 #[.agg #[.int .i64 zs.length, .slice (some ⟨g, 0, none⟩) zs.length cu], .int .i64 r, .int .i64 s] X fun e w' => (∃ v, e = .returned v) ∧ Own w' w2.heap.size (.slice (some ⟨g, 0, none⟩) zs.length cu) (exZ zs p q r s 2) ∧ X.grownBy w' (some g)) := fun X hX => by
          have h := turn_any w2.heap.size g cu zs.length (exZ zs p q r s 1) r s X (by rw [hZ]; exact HO.out.below hX) (by rw [hZ]; exact k3) (by rw [hZ]; exact k4) HF.out.cd (by rw [hZ]; omega) (isG_row_ok hZg r (by rw [hZ]; exact k3)) (isG_row_ok hZg s (by rw [hZ]; exact k4))
          rw [hZ] at h
          exact h
        clear hZ hZg
        go_wp2_with (go_at_call 65; refine (HTE.out _ ((Below.refl _ _).alloc (Nat.le_refl _) _)).mono ?_; rintro e w6 ⟨⟨v6, rfl⟩, hO6, hg6⟩)
        have q6 := hg6.size
        rw [World.size_alloc] at q6
        have HO6 := Lib.hid hO6
        have HX6 := Lib.hid ((hg6.block H (by simp; omega) (by simp; omega)).trans (heap_old_at HX.out _))
        have HP6 := Lib.hid ((hg6.block (H + 1) (by simp; omega) (by simp; omega)).trans (heap_old_at HPB.out _))
        have HB6 := Lib.hid ((HB.out.alloc HB.out.size _).grown hg6 (by simp; omega) (fun q e => by cases e; omega))
        clear hO6 hg6 HTE x0 x1
        go_roundw
        case rel => exact ⟨2, by omega, by go_num, HO6, HX6, HP6, HB6, by omega⟩
        case measure => simp [intOf]
      ·
        have hZ := exZ_length zs p q r s 2
        have hZg := exZ_g HGG.out HF.out 2
        have HTE : Hid (∀ X, Below wr.heap.size wr X → Calls Tryd.prog 65 #[.agg #[.int .i64 zs.length, .slice (some ⟨g, 0, none⟩) zs.length cu], .int .i64 p, .int .i64 r] X fun e w' => (∃ v, e = .returned v) ∧ Own w' w2.heap.size (.slice (some ⟨g, 0, none⟩) zs.length cu) (exZ zs p q r s 3) ∧ X.grownBy w' (some g)) := fun X hX => by
          have h := turn_any w2.heap.size g cu zs.length (exZ zs p q r s 2) p r X (by rw [hZ]; exact HO.out.below hX) (by rw [hZ]; exact k1) (by rw [hZ]; exact k3) HF.out.ac (by rw [hZ]; omega) (isG_row_ok hZg p (by rw [hZ]; exact k1)) (isG_row_ok hZg r (by rw [hZ]; exact k3))
          rw [hZ] at h
          exact h
        clear hZ hZg
        go_wp2_with (go_at_call 65; refine (HTE.out _ ((Below.refl _ _).alloc (Nat.le_refl _) _)).mono ?_; rintro e w6 ⟨⟨v6, rfl⟩, hO6, hg6⟩)
        have q6 := hg6.size
        rw [World.size_alloc] at q6
        have HO6 := Lib.hid hO6
        have HX6 := Lib.hid ((hg6.block H (by simp; omega) (by simp; omega)).trans (heap_old_at HX.out _))
        have HP6 := Lib.hid ((hg6.block (H + 1) (by simp; omega) (by simp; omega)).trans (heap_old_at HPB.out _))
        have HB6 := Lib.hid ((HB.out.alloc HB.out.size _).grown hg6 (by simp; omega) (fun q e => by cases e; omega))
        clear hO6 hg6 HTE x0 x1
        go_roundw
        case rel => exact ⟨3, by omega, by go_num, HO6, HX6, HP6, HB6, by omega⟩
        case measure => simp [intOf]
      ·
        have hZ := exZ_length zs p q r s 3
        have hZg := exZ_g HGG.out HF.out 3
        have HTE : Hid (∀ X, Below wr.heap.size wr X → Calls Tryd.prog 65 #[.agg #[.int .i64 zs.length, .slice (some ⟨g, 0, none⟩) zs.length cu], .int .i64 q, .int .i64 s] X fun e w' => (∃ v, e = .returned v) ∧ Own w' w2.heap.size (.slice (some ⟨g, 0, none⟩) zs.length cu) (exZ zs p q r s 4) ∧ X.grownBy w' (some g)) := fun X hX => by
          have h := turn_any w2.heap.size g cu zs.length (exZ zs p q r s 3) q s X (by rw [hZ]; exact HO.out.below hX) (by rw [hZ]; exact k2) (by rw [hZ]; exact k4) HF.out.bd (by rw [hZ]; omega) (isG_row_ok hZg q (by rw [hZ]; exact k2)) (isG_row_ok hZg s (by rw [hZ]; exact k4))
          rw [hZ] at h
          exact h
        clear hZ hZg
        go_wp2_with (go_at_call 65; refine (HTE.out _ ((Below.refl _ _).alloc (Nat.le_refl _) _)).mono ?_; rintro e w6 ⟨⟨v6, rfl⟩, hO6, hg6⟩)
        have q6 := hg6.size
        rw [World.size_alloc] at q6
        have HO6 := Lib.hid hO6
        have HX6 := Lib.hid ((hg6.block H (by simp; omega) (by simp; omega)).trans (heap_old_at HX.out _))
        have HP6 := Lib.hid ((hg6.block (H + 1) (by simp; omega) (by simp; omega)).trans (heap_old_at HPB.out _))
        have HB6 := Lib.hid ((HB.out.alloc HB.out.size _).grown hg6 (by simp; omega) (fun q e => by cases e; omega))
        clear hO6 hg6 HTE x0 x1
        go_roundw
        case rel => exact ⟨4, by omega, by go_num, HO6, HX6, HP6, HB6, by omega⟩
        case measure => simp [intOf]

theorem implEx_any (n : Int) (v : Value) (zs : List Int) (p q r s : Int) (w : World) (h : Sl w v zs) (hl : zs.length ≤ 9223372036854775807) (hT : Tab w) :
    Calls Tryd.prog 25 #[.agg #[.int .i64 n, v], .int .i64 p, .int .i64 q, .int .i64 r, .int .i64 s] w fun e w' => GRes w.heap.size (exN n zs p q r s) (exD n zs p q r s) (exC n zs p q r s) e w' ∧ Below w.heap.size w w' := by
  have D0 : Below w.heap.size w (((w.alloc (.cells #[.int .i64 n, v] 26)).alloc (.cells #[.int .i64 0, .slice none 0 0] 26)).alloc (.cells #[.int .i64 p, .int .i64 q, .int .i64 r, .int .i64 s] 2)) := (((Below.refl _ _).alloc (Nat.le_refl _) _).alloc (by simp) _).alloc (by simp; omega) _
  unfold exN exD exC exOk
  cases hg : isG n zs with
  | false => exact implEx_code n v p q r s 1 w _ rfl (by decide) (chk_no n v _ zs _ (h.below D0) hg hl (hT.belowAll D0))
  | true =>
    obtain ⟨h1, _, h3, _⟩ := isG_parts hg
    obtain ⟨b, off, cap, rfl, hb, hc⟩ := sl_some h (by omega)
    cases hvs : vsOk n [p, q, r, s] 4 with
    | false =>
      refine implEx_code n _ p q r s 2 w _ rfl (by decide) ?_
      have hv := chk_some n b off cap zs (w.heap.size + 1 + 1) 0 4 [p, q, r, s] _ (Nat.lt_of_lt_of_le hb D0.size) (hc.below D0 hb) (by simp) (cells4 (heap_new_at _ _ _ (by simp))) hg hl (by simp) (hT.belowAll D0)
      rw [vc_no hvs] at hv
      exact hv
    | true =>
      obtain rfl : (zs.length : Int) = n := h3
      obtain ⟨v1, v2, v3, v4⟩ := vs4_parts hvs
      obtain ⟨p, rfl⟩ := Int.eq_ofNat_of_zero_le v1.1
      obtain ⟨q, rfl⟩ := Int.eq_ofNat_of_zero_le v2.1
      obtain ⟨r, rfl⟩ := Int.eq_ofNat_of_zero_le v3.1
      obtain ⟨s, rfl⟩ := Int.eq_ofNat_of_zero_le v4.1
      cases hd : exDf (p : Int) q r s with
      | false =>
        simp only [Bool.and_true, Bool.and_false, Bool.false_and, if_true, if_false, Bool.false_eq_true]
        refine implEx_same b off cap zs p q r s w hb hc hg hvs hT ?_
        unfold exDf at hd
        have hd := of_decide_eq_false hd
        omega
      | true =>
        have hf : Four zs.length p q r s := by
          unfold exDf at hd
          have hd := of_decide_eq_true hd
          exact ⟨by omega, by omega, by omega, by omega, by omega, by omega, by omega, by omega, by omega, by omega⟩
        cases hst : exSt zs (p : Int) q r s with
        | false =>
          simp only [Bool.and_true, Bool.and_false, if_true, if_false, Bool.false_eq_true]
          unfold exSt at hst
          simp only [Int.toNat_natCast] at hst
          exact implEx_state b off cap zs p q r s w hb hc hg hvs hT hf _ _ _ _ rfl rfl rfl rfl hst
        | true =>
          simp only [Bool.and_true, if_true, Int.toNat_natCast]
          unfold exSt at hst
          simp only [Int.toNat_natCast, Bool.and_eq_true, Bool.not_eq_true'] at hst
          exact implEx_yes b off cap zs p q r s w hb hc hg hvs hT hf hst.1.1.1 hst.1.1.2 hst.1.2 hst.2
end Go.Proofs.YtabkfihhfkmioaaDoor
