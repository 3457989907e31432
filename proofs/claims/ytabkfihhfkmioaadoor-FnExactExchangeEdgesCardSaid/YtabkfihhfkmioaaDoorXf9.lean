/-
  spec.ExchangeEdges.
-/
import Derived.Test.YtabkfihhfkmioaaDoorXe9
import Derived.Deep.DeepCutAuto
namespace Go.Proofs.YtabkfihhfkmioaaDoor
set_option maxRecDepth 100000
open Go.RowKit

set_option maxHeartbeats 1600000 in
theorem specEx_code (n : Int) (v : Value) (p q r s c : Int) (w W : World) (hW : W = ((w.alloc (.cells #[.int .i64 n, v] 26)).alloc (.cells #[.int .i64 0, .slice none 0 0] 26)).alloc (.cells #[.int .i64 p, .int .i64 q, .int .i64 r, .int .i64 s] 2)) (hc : c ≠ 0)
    (hcall : Calls Tryd.prog 51 #[.agg #[.int .i64 n, v], .slice (some ⟨w.heap.size + 1 + 1, 0, none⟩) 4 4] W fun e w' => e = .returned (.int .i64 c) ∧ Below W.heap.size W w') :
    Calls Tryd.prog 24 #[.agg #[.int .i64 n, v], .int .i64 p, .int .i64 q, .int .i64 r, .int .i64 s] w fun e w' => GRes w.heap.size 0 [] c e w' ∧ Below w.heap.size w w' := by
  have D0 : Below w.heap.size w W := by rw [hW]; exact (((Below.refl _ _).alloc (Nat.le_refl _) _).alloc (by simp) _).alloc (by simp; omega) _
  have hsz : w.heap.size + 3 ≤ W.heap.size := by rw [hW]; simp
  have HR : Hid (W.heap[w.heap.size + 1]? = some (.cells #[.int .i64 0, .slice none 0 0] 26 (0, 0))) := by show _ = _; rw [hW]; exact heap_old_at (heap_new_at _ _ _ (by simp)) _
  have HD := Lib.hid D0
  have hcb : (c != 0) = true := by simpa using hc
  have hcb2 : (c == 0) = false := by simpa using hc
  clear D0
  go_enter Tryd.func24, Tryd.ntmps24
  go_wp2_with fail
  rw [← hW]
  refine hcall.mono ?_
  rintro e w1 ⟨rfl, hb1⟩
  have HR1 := Lib.hid ((hb1.block (w.heap.size + 1) (by omega)).trans HR.out)
  have HB1 := Lib.hid (HD.out.trans (hb1.mono HD.out.size))
  obtain ⟨r0, r1, g0, g1⟩ := two_cells HR1.out
  clear hb1 hW hcall
  go_wp2
  have hfin := two_set (a := .int .i64 0) (b := .slice none 0 0) HR1.out
  refine bodyPost_ret (v := .tuple #[.agg #[.int .i64 0, .slice none 0 0], .int .i64 c]) (results_cell2 (p := 10) (u := 11) (ty := 26) rfl _ _ (w.heap.size + 1) 26 _ (0, 0) _ rfl hfin Tryd.underlying26 rfl (by exact info27)) rfl ⟨⟨_, rfl, Own.nil _ _⟩, ?_⟩
  exact (HB1.out.setCell (p := ⟨w.heap.size + 1, 0, none⟩) (by simp) _).setCell (p := ⟨w.heap.size + 1, 1, none⟩) (by simp) _

set_option maxHeartbeats 6400000 in
theorem specEx_same (b off cap : Nat) (zs : List Int) (p q r s : Nat) (w : World) (hb : b < w.heap.size) (hc : Cells w b off zs) (hg : isG zs.length zs = true) (hvs : vsOk zs.length [(p : Int), (q : Int), (r : Int), (s : Int)] 4 = true) (q1 q2 q3 q4 q5 q6 : Bool) (h1 : ((p : Int) == (q : Int)) = q1) (h2 : ((p : Int) == (r : Int)) = q2) (h3 : ((p : Int) == (s : Int)) = q3) (h4 : ((q : Int) == (r : Int)) = q4) (h5 : ((q : Int) == (s : Int)) = q5) (h6 : ((r : Int) == (s : Int)) = q6) (hq : (q1 || q2 || q3 || q4 || q5 || q6) = true) :
    Calls Tryd.prog 24 #[.agg #[.int .i64 zs.length, .slice (some ⟨b, off, none⟩) zs.length cap], .int .i64 p, .int .i64 q, .int .i64 r, .int .i64 s] w fun e w' => GRes w.heap.size 0 [] 2 e w' ∧ Below w.heap.size w w' := by
  obtain ⟨h1a, h1b, -, -, -⟩ := isG_parts hg
  obtain ⟨W, hW⟩ : ∃ W, W = ((w.alloc (.cells #[.int .i64 zs.length, .slice (some ⟨b, off, none⟩) zs.length cap] 26)).alloc (.cells #[.int .i64 0, .slice none 0 0] 26)).alloc (.cells #[.int .i64 p, .int .i64 q, .int .i64 r, .int .i64 s] 2) := ⟨_, rfl⟩
  have D0 : Below w.heap.size w W := by rw [hW]; exact (((Below.refl _ _).alloc (Nat.le_refl _) _).alloc (by simp) _).alloc (by simp; omega) _
  have hsz : w.heap.size + 3 ≤ W.heap.size := by rw [hW]; simp
  have HR0 : Hid (W.heap[w.heap.size + 1]? = some (.cells #[.int .i64 0, .slice none 0 0] 26 (0, 0))) := by show _ = _; rw [hW]; exact heap_old_at (heap_new_at _ _ _ (by simp)) _
  have HX : Hid (Cells W (w.heap.size + 1 + 1) 0 [(p : Int), (q : Int), (r : Int), (s : Int)]) := by
    show Cells _ _ _ _
    rw [hW]
    exact cells4 (heap_new_at _ _ _ (by simp))
  have HG0 : Hid (GBox W w.heap.size zs.length b off cap zs) := by
    show GBox _ _ _ _ _ _ _
    rw [hW]
    exact ((GBox.new (n := zs.length) (cap := cap) hb hc).below ((Below.refl _ _).alloc (by simp) _)).below ((Below.refl _ _).alloc (by simp) _)
  have hv := verts_some zs.length b off cap zs (w.heap.size + 1 + 1) 0 4 [(p : Int), (q : Int), (r : Int), (s : Int)] W HG0.out.lb HG0.out.cells (by omega) HX.out hg (by omega) (by simp)
  rw [vc_yes hvs] at hv
  have HD0 := Lib.hid D0
  clear hc hg hvs D0 HX HG0
  cases q1 with
  | true =>
    go_enter Tryd.func24, Tryd.ntmps24
    go_wp2_with fail
    rw [← hW]
    clear hW
    refine hv.mono ?_
    rintro e w1 ⟨rfl, hb1⟩
    have q1 := hb1.size
    have HR := Lib.hid ((hb1.block (w.heap.size + 1) (by omega)).trans HR0.out)
    have HD := Lib.hid (HD0.out.trans (hb1.mono HD0.out.size))
    clear hb1 hv
    obtain ⟨r0, r1, g0, g1⟩ := two_cells HR.out
    go_wp2
    have hfin := two_set (a := .int .i64 0) (b := .slice none 0 0) HR.out
    refine bodyPost_ret (v := .tuple #[.agg #[.int .i64 0, .slice none 0 0], .int .i64 2]) (results_cell2 (p := 10) (u := 11) (ty := 26) rfl _ _ (w.heap.size + 1) 26 _ (0, 0) _ rfl hfin Tryd.underlying26 rfl (by exact info27)) rfl ⟨⟨_, rfl, Own.nil _ _⟩, ?_⟩
    exact (HD.out.setCell (p := ⟨w.heap.size + 1, 0, none⟩) (by simp) _).setCell (p := ⟨w.heap.size + 1, 1, none⟩) (by simp) _
  | false =>
    cases q2 with
    | true =>
      go_enter Tryd.func24, Tryd.ntmps24
      go_wp2_with fail
      rw [← hW]
      clear hW
      refine hv.mono ?_
      rintro e w1 ⟨rfl, hb1⟩
      have q1 := hb1.size
      have HR := Lib.hid ((hb1.block (w.heap.size + 1) (by omega)).trans HR0.out)
      have HD := Lib.hid (HD0.out.trans (hb1.mono HD0.out.size))
      clear hb1 hv
      obtain ⟨r0, r1, g0, g1⟩ := two_cells HR.out
      go_wp2
      have hfin := two_set (a := .int .i64 0) (b := .slice none 0 0) HR.out
      refine bodyPost_ret (v := .tuple #[.agg #[.int .i64 0, .slice none 0 0], .int .i64 2]) (results_cell2 (p := 10) (u := 11) (ty := 26) rfl _ _ (w.heap.size + 1) 26 _ (0, 0) _ rfl hfin Tryd.underlying26 rfl (by exact info27)) rfl ⟨⟨_, rfl, Own.nil _ _⟩, ?_⟩
      exact (HD.out.setCell (p := ⟨w.heap.size + 1, 0, none⟩) (by simp) _).setCell (p := ⟨w.heap.size + 1, 1, none⟩) (by simp) _
    | false =>
      cases q3 with
      | true =>
        go_enter Tryd.func24, Tryd.ntmps24
        go_wp2_with fail
        rw [← hW]
        clear hW
        refine hv.mono ?_
        rintro e w1 ⟨rfl, hb1⟩
        have q1 := hb1.size
        have HR := Lib.hid ((hb1.block (w.heap.size + 1) (by omega)).trans HR0.out)
        have HD := Lib.hid (HD0.out.trans (hb1.mono HD0.out.size))
        clear hb1 hv
        obtain ⟨r0, r1, g0, g1⟩ := two_cells HR.out
        go_wp2
        have hfin := two_set (a := .int .i64 0) (b := .slice none 0 0) HR.out
        refine bodyPost_ret (v := .tuple #[.agg #[.int .i64 0, .slice none 0 0], .int .i64 2]) (results_cell2 (p := 10) (u := 11) (ty := 26) rfl _ _ (w.heap.size + 1) 26 _ (0, 0) _ rfl hfin Tryd.underlying26 rfl (by exact info27)) rfl ⟨⟨_, rfl, Own.nil _ _⟩, ?_⟩
        exact (HD.out.setCell (p := ⟨w.heap.size + 1, 0, none⟩) (by simp) _).setCell (p := ⟨w.heap.size + 1, 1, none⟩) (by simp) _
      | false =>
        cases q4 with
        | true =>
          go_enter Tryd.func24, Tryd.ntmps24
          go_wp2_with fail
          rw [← hW]
          clear hW
          refine hv.mono ?_
          rintro e w1 ⟨rfl, hb1⟩
          have q1 := hb1.size
          have HR := Lib.hid ((hb1.block (w.heap.size + 1) (by omega)).trans HR0.out)
          have HD := Lib.hid (HD0.out.trans (hb1.mono HD0.out.size))
          clear hb1 hv
          obtain ⟨r0, r1, g0, g1⟩ := two_cells HR.out
          go_wp2
          have hfin := two_set (a := .int .i64 0) (b := .slice none 0 0) HR.out
          refine bodyPost_ret (v := .tuple #[.agg #[.int .i64 0, .slice none 0 0], .int .i64 2]) (results_cell2 (p := 10) (u := 11) (ty := 26) rfl _ _ (w.heap.size + 1) 26 _ (0, 0) _ rfl hfin Tryd.underlying26 rfl (by exact info27)) rfl ⟨⟨_, rfl, Own.nil _ _⟩, ?_⟩
          exact (HD.out.setCell (p := ⟨w.heap.size + 1, 0, none⟩) (by simp) _).setCell (p := ⟨w.heap.size + 1, 1, none⟩) (by simp) _
        | false =>
          cases q5 with
          | true =>
            go_enter Tryd.func24, Tryd.ntmps24
            go_wp2_with fail
            rw [← hW]
            clear hW
            refine hv.mono ?_
            rintro e w1 ⟨rfl, hb1⟩
            have q1 := hb1.size
            have HR := Lib.hid ((hb1.block (w.heap.size + 1) (by omega)).trans HR0.out)
            have HD := Lib.hid (HD0.out.trans (hb1.mono HD0.out.size))
            clear hb1 hv
            obtain ⟨r0, r1, g0, g1⟩ := two_cells HR.out
            go_wp2
            have hfin := two_set (a := .int .i64 0) (b := .slice none 0 0) HR.out
            refine bodyPost_ret (v := .tuple #[.agg #[.int .i64 0, .slice none 0 0], .int .i64 2]) (results_cell2 (p := 10) (u := 11) (ty := 26) rfl _ _ (w.heap.size + 1) 26 _ (0, 0) _ rfl hfin Tryd.underlying26 rfl (by exact info27)) rfl ⟨⟨_, rfl, Own.nil _ _⟩, ?_⟩
            exact (HD.out.setCell (p := ⟨w.heap.size + 1, 0, none⟩) (by simp) _).setCell (p := ⟨w.heap.size + 1, 1, none⟩) (by simp) _
          | false =>
            cases q6 with
            | true =>
              go_enter Tryd.func24, Tryd.ntmps24
              go_wp2_with fail
              rw [← hW]
              clear hW
              refine hv.mono ?_
              rintro e w1 ⟨rfl, hb1⟩
              have q1 := hb1.size
              have HR := Lib.hid ((hb1.block (w.heap.size + 1) (by omega)).trans HR0.out)
              have HD := Lib.hid (HD0.out.trans (hb1.mono HD0.out.size))
              clear hb1 hv
              obtain ⟨r0, r1, g0, g1⟩ := two_cells HR.out
              go_wp2
              have hfin := two_set (a := .int .i64 0) (b := .slice none 0 0) HR.out
              refine bodyPost_ret (v := .tuple #[.agg #[.int .i64 0, .slice none 0 0], .int .i64 2]) (results_cell2 (p := 10) (u := 11) (ty := 26) rfl _ _ (w.heap.size + 1) 26 _ (0, 0) _ rfl hfin Tryd.underlying26 rfl (by exact info27)) rfl ⟨⟨_, rfl, Own.nil _ _⟩, ?_⟩
              exact (HD.out.setCell (p := ⟨w.heap.size + 1, 0, none⟩) (by simp) _).setCell (p := ⟨w.heap.size + 1, 1, none⟩) (by simp) _
            | false =>
              exact absurd hq (by decide)

set_option maxHeartbeats 6400000 in
theorem specEx_state (b off cap : Nat) (zs : List Int) (p q r s : Nat) (w : World) (hb : b < w.heap.size) (hc : Cells w b off zs) (hg : isG zs.length zs = true) (hvs : vsOk zs.length [(p : Int), (q : Int), (r : Int), (s : Int)] 4 = true) (hf : Four zs.length p q r s) (z1 z2 z3 z4 : Bool) (hz1 : bt (el zs p) q = z1) (hz2 : bt (el zs r) s = z2) (hz3 : bt (el zs p) r = z3) (hz4 : bt (el zs q) s = z4) (hq : (z1 && z2 && !z3 && !z4) = false) :
    Calls Tryd.prog 24 #[.agg #[.int .i64 zs.length, .slice (some ⟨b, off, none⟩) zs.length cap], .int .i64 p, .int .i64 q, .int .i64 r, .int .i64 s] w fun e w' => GRes w.heap.size 0 [] 5 e w' ∧ Below w.heap.size w w' := by
  obtain ⟨h1a, h1b, -, -, -⟩ := isG_parts hg
  have k1 := hf.ha; have k2 := hf.hb; have k3 := hf.hc; have k4 := hf.hd
  have h1 : ((p : Int) == (q : Int)) = false := by have := hf.ab; simp; omega
  have h2 : ((p : Int) == (r : Int)) = false := by have := hf.ac; simp; omega
  have h3 : ((p : Int) == (s : Int)) = false := by have := hf.ad; simp; omega
  have h4 : ((q : Int) == (r : Int)) = false := by have := hf.bc; simp; omega
  have h5 : ((q : Int) == (s : Int)) = false := by have := hf.bd; simp; omega
  have h6 : ((r : Int) == (s : Int)) = false := by have := hf.cd; simp; omega
  obtain ⟨W, hW⟩ : ∃ W, W = ((w.alloc (.cells #[.int .i64 zs.length, .slice (some ⟨b, off, none⟩) zs.length cap] 26)).alloc (.cells #[.int .i64 0, .slice none 0 0] 26)).alloc (.cells #[.int .i64 p, .int .i64 q, .int .i64 r, .int .i64 s] 2) := ⟨_, rfl⟩
  have D0 : Below w.heap.size w W := by rw [hW]; exact (((Below.refl _ _).alloc (Nat.le_refl _) _).alloc (by simp) _).alloc (by simp; omega) _
  have hsz : w.heap.size + 3 ≤ W.heap.size := by rw [hW]; simp
  have HR0 : Hid (W.heap[w.heap.size + 1]? = some (.cells #[.int .i64 0, .slice none 0 0] 26 (0, 0))) := by show _ = _; rw [hW]; exact heap_old_at (heap_new_at _ _ _ (by simp)) _
  have HX : Hid (Cells W (w.heap.size + 1 + 1) 0 [(p : Int), (q : Int), (r : Int), (s : Int)]) := by
    show Cells _ _ _ _
    rw [hW]
    exact cells4 (heap_new_at _ _ _ (by simp))
  have HG0 : Hid (GBox W w.heap.size zs.length b off cap zs) := by
    show GBox _ _ _ _ _ _ _
    rw [hW]
    exact ((GBox.new (n := zs.length) (cap := cap) hb hc).below ((Below.refl _ _).alloc (by simp) _)).below ((Below.refl _ _).alloc (by simp) _)
  have hv := verts_some zs.length b off cap zs (w.heap.size + 1 + 1) 0 4 [(p : Int), (q : Int), (r : Int), (s : Int)] W HG0.out.lb HG0.out.cells (by omega) HX.out hg (by omega) (by simp)
  rw [vc_yes hvs] at hv
  have HD0 := Lib.hid D0
  have HS1 := Lib.hid hz1; have HS2 := Lib.hid hz2; have HS3 := Lib.hid hz3; have HS4 := Lib.hid hz4
  have hzb : ∀ i, i < zs.length → 0 ≤ el zs i ∧ el zs i ≤ 9223372036854775807 := isG_row_ok hg
  have HZ := Lib.hid hzb
  clear hzb
  clear hc hg hvs D0 HX hf hz1 hz2 hz3 hz4
  cases z1 with
  | false =>
    go_enter Tryd.func24, Tryd.ntmps24
    go_wp2_with fail
    rw [← hW]
    clear hW
    refine hv.mono ?_
    rintro e w1 ⟨rfl, hb1⟩
    have q1 := hb1.size
    have HR := Lib.hid ((hb1.block (w.heap.size + 1) (by omega)).trans HR0.out)
    have HD := Lib.hid (HD0.out.trans (hb1.mono HD0.out.size))
    have G1 := HG0.out.below (hb1.mono (by omega))
    have b0 := G1.b0
    have b1 := G1.b1
    have hbr := Below.refl w1.heap.size w1
    have S1 : Hid (∀ X, Below w1.heap.size w1 X → Calls Tryd.prog 66 #[.agg #[.int .i64 zs.length, .slice (some ⟨b, off, none⟩) zs.length cap], .int .i64 p, .int .i64 q] X fun e w' => e = .returned (.bool false) ∧ Below w1.heap.size w1 w') := fun X hX => by
      have GX := G1.below (hX.mono (by omega))
      refine (has_any zs.length b off zs.length cap (el zs p) p q X GX.lb (GX.cells p (by omega)) (by omega) (by omega) (by omega) (by omega) (HZ.out p (by omega)).1 (HZ.out p (by omega)).2 false (by rw [Int.toNat_natCast]; exact HS1.out)).mono ?_
      rintro e w' ⟨rfl, hbb⟩
      exact ⟨rfl, hX.trans (hbb.mono hX.size)⟩
    have S2 : Hid (∀ X, Below w1.heap.size w1 X → Calls Tryd.prog 66 #[.agg #[.int .i64 zs.length, .slice (some ⟨b, off, none⟩) zs.length cap], .int .i64 r, .int .i64 s] X fun e w' => e = .returned (.bool z2) ∧ Below w1.heap.size w1 w') := fun X hX => by
      have GX := G1.below (hX.mono (by omega))
      refine (has_any zs.length b off zs.length cap (el zs r) r s X GX.lb (GX.cells r (by omega)) (by omega) (by omega) (by omega) (by omega) (HZ.out r (by omega)).1 (HZ.out r (by omega)).2 z2 (by rw [Int.toNat_natCast]; exact HS2.out)).mono ?_
      rintro e w' ⟨rfl, hbb⟩
      exact ⟨rfl, hX.trans (hbb.mono hX.size)⟩
    have S3 : Hid (∀ X, Below w1.heap.size w1 X → Calls Tryd.prog 66 #[.agg #[.int .i64 zs.length, .slice (some ⟨b, off, none⟩) zs.length cap], .int .i64 p, .int .i64 r] X fun e w' => e = .returned (.bool z3) ∧ Below w1.heap.size w1 w') := fun X hX => by
      have GX := G1.below (hX.mono (by omega))
      refine (has_any zs.length b off zs.length cap (el zs p) p r X GX.lb (GX.cells p (by omega)) (by omega) (by omega) (by omega) (by omega) (HZ.out p (by omega)).1 (HZ.out p (by omega)).2 z3 (by rw [Int.toNat_natCast]; exact HS3.out)).mono ?_
      rintro e w' ⟨rfl, hbb⟩
      exact ⟨rfl, hX.trans (hbb.mono hX.size)⟩
    have S4 : Hid (∀ X, Below w1.heap.size w1 X → Calls Tryd.prog 66 #[.agg #[.int .i64 zs.length, .slice (some ⟨b, off, none⟩) zs.length cap], .int .i64 q, .int .i64 s] X fun e w' => e = .returned (.bool z4) ∧ Below w1.heap.size w1 w') := fun X hX => by
      have GX := G1.below (hX.mono (by omega))
      refine (has_any zs.length b off zs.length cap (el zs q) q s X GX.lb (GX.cells q (by omega)) (by omega) (by omega) (by omega) (by omega) (HZ.out q (by omega)).1 (HZ.out q (by omega)).2 z4 (by rw [Int.toNat_natCast]; exact HS4.out)).mono ?_
      rintro e w' ⟨rfl, hbb⟩
      exact ⟨rfl, hX.trans (hbb.mono hX.size)⟩
    clear hb1 hv
    go_wp2_with (go_at_call 66; first | (with_reducible refine (S1.out _ (by assumption)).mono ?_; rintro e w2 ⟨rfl, hb2⟩; have G2 := G1.below (hb2.mono (by omega)); have b0 := G2.b0; have b1 := G2.b1; obtain ⟨r0, r1, g0, g1⟩ := two_cells ((hb2.block (w.heap.size + 1) (by omega)).trans HR.out)) | (with_reducible refine (S2.out _ (by assumption)).mono ?_; rintro e w2 ⟨rfl, hb2⟩; have G2 := G1.below (hb2.mono (by omega)); have b0 := G2.b0; have b1 := G2.b1; obtain ⟨r0, r1, g0, g1⟩ := two_cells ((hb2.block (w.heap.size + 1) (by omega)).trans HR.out)) | (with_reducible refine (S3.out _ (by assumption)).mono ?_; rintro e w2 ⟨rfl, hb2⟩; have G2 := G1.below (hb2.mono (by omega)); have b0 := G2.b0; have b1 := G2.b1; obtain ⟨r0, r1, g0, g1⟩ := two_cells ((hb2.block (w.heap.size + 1) (by omega)).trans HR.out)) | (with_reducible refine (S4.out _ (by assumption)).mono ?_; rintro e w2 ⟨rfl, hb2⟩; have G2 := G1.below (hb2.mono (by omega)); have b0 := G2.b0; have b1 := G2.b1; obtain ⟨r0, r1, g0, g1⟩ := two_cells ((hb2.block (w.heap.size + 1) (by omega)).trans HR.out)))
    have HR2 := Lib.hid ((hb2.block (w.heap.size + 1) (by omega)).trans HR.out)
    have HD2 := Lib.hid (HD.out.trans (hb2.mono HD.out.size))
    have hfin := two_set (a := .int .i64 0) (b := .slice none 0 0) HR2.out
    refine bodyPost_ret (v := .tuple #[.agg #[.int .i64 0, .slice none 0 0], .int .i64 5]) (results_cell2 (p := 10) (u := 11) (ty := 26) rfl _ _ (w.heap.size + 1) 26 _ (0, 0) _ rfl hfin Tryd.underlying26 rfl (by exact info27)) rfl ⟨⟨_, rfl, Own.nil _ _⟩, ?_⟩
    exact (HD2.out.setCell (p := ⟨w.heap.size + 1, 0, none⟩) (by simp) _).setCell (p := ⟨w.heap.size + 1, 1, none⟩) (by simp) _
  | true =>
    cases z2 with
    | false =>
      go_enter Tryd.func24, Tryd.ntmps24
      go_wp2_with fail
      rw [← hW]
      clear hW
      refine hv.mono ?_
      rintro e w1 ⟨rfl, hb1⟩
      have q1 := hb1.size
      have HR := Lib.hid ((hb1.block (w.heap.size + 1) (by omega)).trans HR0.out)
      have HD := Lib.hid (HD0.out.trans (hb1.mono HD0.out.size))
      have G1 := HG0.out.below (hb1.mono (by omega))
      have b0 := G1.b0
      have b1 := G1.b1
      have hbr := Below.refl w1.heap.size w1
      have S1 : Hid (∀ X, Below w1.heap.size w1 X → Calls Tryd.prog 66 #[.agg #[.int .i64 zs.length, .slice (some ⟨b, off, none⟩) zs.length cap], .int .i64 p, .int .i64 q] X fun e w' => e = .returned (.bool true) ∧ Below w1.heap.size w1 w') := fun X hX => by
        have GX := G1.below (hX.mono (by omega))
        refine (has_any zs.length b off zs.length cap (el zs p) p q X GX.lb (GX.cells p (by omega)) (by omega) (by omega) (by omega) (by omega) (HZ.out p (by omega)).1 (HZ.out p (by omega)).2 true (by rw [Int.toNat_natCast]; exact HS1.out)).mono ?_
        rintro e w' ⟨rfl, hbb⟩
        exact ⟨rfl, hX.trans (hbb.mono hX.size)⟩
      have S2 : Hid (∀ X, Below w1.heap.size w1 X → Calls Tryd.prog 66 #[.agg #[.int .i64 zs.length, .slice (some ⟨b, off, none⟩) zs.length cap], .int .i64 r, .int .i64 s] X fun e w' => e = .returned (.bool false) ∧ Below w1.heap.size w1 w') := fun X hX => by
        have GX := G1.below (hX.mono (by omega))
        refine (has_any zs.length b off zs.length cap (el zs r) r s X GX.lb (GX.cells r (by omega)) (by omega) (by omega) (by omega) (by omega) (HZ.out r (by omega)).1 (HZ.out r (by omega)).2 false (by rw [Int.toNat_natCast]; exact HS2.out)).mono ?_
        rintro e w' ⟨rfl, hbb⟩
        exact ⟨rfl, hX.trans (hbb.mono hX.size)⟩
      have S3 : Hid (∀ X, Below w1.heap.size w1 X → Calls Tryd.prog 66 #[.agg #[.int .i64 zs.length, .slice (some ⟨b, off, none⟩) zs.length cap], .int .i64 p, .int .i64 r] X fun e w' => e = .returned (.bool z3) ∧ Below w1.heap.size w1 w') := fun X hX => by
        have GX := G1.below (hX.mono (by omega))
        refine (has_any zs.length b off zs.length cap (el zs p) p r X GX.lb (GX.cells p (by omega)) (by omega) (by omega) (by omega) (by omega) (HZ.out p (by omega)).1 (HZ.out p (by omega)).2 z3 (by rw [Int.toNat_natCast]; exact HS3.out)).mono ?_
        rintro e w' ⟨rfl, hbb⟩
        exact ⟨rfl, hX.trans (hbb.mono hX.size)⟩
      have S4 : Hid (∀ X, Below w1.heap.size w1 X → Calls Tryd.prog 66 #[.agg #[.int .i64 zs.length, .slice (some ⟨b, off, none⟩) zs.length cap], .int .i64 q, .int .i64 s] X fun e w' => e = .returned (.bool z4) ∧ Below w1.heap.size w1 w') := fun X hX => by
        have GX := G1.below (hX.mono (by omega))
        refine (has_any zs.length b off zs.length cap (el zs q) q s X GX.lb (GX.cells q (by omega)) (by omega) (by omega) (by omega) (by omega) (HZ.out q (by omega)).1 (HZ.out q (by omega)).2 z4 (by rw [Int.toNat_natCast]; exact HS4.out)).mono ?_
        rintro e w' ⟨rfl, hbb⟩
        exact ⟨rfl, hX.trans (hbb.mono hX.size)⟩
      clear hb1 hv
      go_wp2_with (go_at_call 66; first | (with_reducible refine (S1.out _ (by assumption)).mono ?_; rintro e w2 ⟨rfl, hb2⟩; have G2 := G1.below (hb2.mono (by omega)); have b0 := G2.b0; have b1 := G2.b1; obtain ⟨r0, r1, g0, g1⟩ := two_cells ((hb2.block (w.heap.size + 1) (by omega)).trans HR.out)) | (with_reducible refine (S2.out _ (by assumption)).mono ?_; rintro e w2 ⟨rfl, hb2⟩; have G2 := G1.below (hb2.mono (by omega)); have b0 := G2.b0; have b1 := G2.b1; obtain ⟨r0, r1, g0, g1⟩ := two_cells ((hb2.block (w.heap.size + 1) (by omega)).trans HR.out)) | (with_reducible refine (S3.out _ (by assumption)).mono ?_; rintro e w2 ⟨rfl, hb2⟩; have G2 := G1.below (hb2.mono (by omega)); have b0 := G2.b0; have b1 := G2.b1; obtain ⟨r0, r1, g0, g1⟩ := two_cells ((hb2.block (w.heap.size + 1) (by omega)).trans HR.out)) | (with_reducible refine (S4.out _ (by assumption)).mono ?_; rintro e w2 ⟨rfl, hb2⟩; have G2 := G1.below (hb2.mono (by omega)); have b0 := G2.b0; have b1 := G2.b1; obtain ⟨r0, r1, g0, g1⟩ := two_cells ((hb2.block (w.heap.size + 1) (by omega)).trans HR.out)))
      have HR2 := Lib.hid ((hb2.block (w.heap.size + 1) (by omega)).trans HR.out)
      have HD2 := Lib.hid (HD.out.trans (hb2.mono HD.out.size))
      have hfin := two_set (a := .int .i64 0) (b := .slice none 0 0) HR2.out
      refine bodyPost_ret (v := .tuple #[.agg #[.int .i64 0, .slice none 0 0], .int .i64 5]) (results_cell2 (p := 10) (u := 11) (ty := 26) rfl _ _ (w.heap.size + 1) 26 _ (0, 0) _ rfl hfin Tryd.underlying26 rfl (by exact info27)) rfl ⟨⟨_, rfl, Own.nil _ _⟩, ?_⟩
      exact (HD2.out.setCell (p := ⟨w.heap.size + 1, 0, none⟩) (by simp) _).setCell (p := ⟨w.heap.size + 1, 1, none⟩) (by simp) _
    | true =>
      cases z3 with
      | true =>
        go_enter Tryd.func24, Tryd.ntmps24
        go_wp2_with fail
        rw [← hW]
        clear hW
        refine hv.mono ?_
        rintro e w1 ⟨rfl, hb1⟩
        have q1 := hb1.size
        have HR := Lib.hid ((hb1.block (w.heap.size + 1) (by omega)).trans HR0.out)
        have HD := Lib.hid (HD0.out.trans (hb1.mono HD0.out.size))
        have G1 := HG0.out.below (hb1.mono (by omega))
        have b0 := G1.b0
        have b1 := G1.b1
        have hbr := Below.refl w1.heap.size w1
        have S1 : Hid (∀ X, Below w1.heap.size w1 X → Calls Tryd.prog 66 #[.agg #[.int .i64 zs.length, .slice (some ⟨b, off, none⟩) zs.length cap], .int .i64 p, .int .i64 q] X fun e w' => e = .returned (.bool true) ∧ Below w1.heap.size w1 w') := fun X hX => by
          have GX := G1.below (hX.mono (by omega))
          refine (has_any zs.length b off zs.length cap (el zs p) p q X GX.lb (GX.cells p (by omega)) (by omega) (by omega) (by omega) (by omega) (HZ.out p (by omega)).1 (HZ.out p (by omega)).2 true (by rw [Int.toNat_natCast]; exact HS1.out)).mono ?_
          rintro e w' ⟨rfl, hbb⟩
          exact ⟨rfl, hX.trans (hbb.mono hX.size)⟩
        have S2 : Hid (∀ X, Below w1.heap.size w1 X → Calls Tryd.prog 66 #[.agg #[.int .i64 zs.length, .slice (some ⟨b, off, none⟩) zs.length cap], .int .i64 r, .int .i64 s] X fun e w' => e = .returned (.bool true) ∧ Below w1.heap.size w1 w') := fun X hX => by
          have GX := G1.below (hX.mono (by omega))
          refine (has_any zs.length b off zs.length cap (el zs r) r s X GX.lb (GX.cells r (by omega)) (by omega) (by omega) (by omega) (by omega) (HZ.out r (by omega)).1 (HZ.out r (by omega)).2 true (by rw [Int.toNat_natCast]; exact HS2.out)).mono ?_
          rintro e w' ⟨rfl, hbb⟩
          exact ⟨rfl, hX.trans (hbb.mono hX.size)⟩
        have S3 : Hid (∀ X, Below w1.heap.size w1 X → Calls Tryd.prog 66 #[.agg #[.int .i64 zs.length, .slice (some ⟨b, off, none⟩) zs.length cap], .int .i64 p, .int .i64 r] X fun e w' => e = .returned (.bool true) ∧ Below w1.heap.size w1 w') := fun X hX => by
          have GX := G1.below (hX.mono (by omega))
          refine (has_any zs.length b off zs.length cap (el zs p) p r X GX.lb (GX.cells p (by omega)) (by omega) (by omega) (by omega) (by omega) (HZ.out p (by omega)).1 (HZ.out p (by omega)).2 true (by rw [Int.toNat_natCast]; exact HS3.out)).mono ?_
          rintro e w' ⟨rfl, hbb⟩
          exact ⟨rfl, hX.trans (hbb.mono hX.size)⟩
        have S4 : Hid (∀ X, Below w1.heap.size w1 X → Calls Tryd.prog 66 #[.agg #[.int .i64 zs.length, .slice (some ⟨b, off, none⟩) zs.length cap], .int .i64 q, .int .i64 s] X fun e w' => e = .returned (.bool z4) ∧ Below w1.heap.size w1 w') := fun X hX => by
          have GX := G1.below (hX.mono (by omega))
          refine (has_any zs.length b off zs.length cap (el zs q) q s X GX.lb (GX.cells q (by omega)) (by omega) (by omega) (by omega) (by omega) (HZ.out q (by omega)).1 (HZ.out q (by omega)).2 z4 (by rw [Int.toNat_natCast]; exact HS4.out)).mono ?_
          rintro e w' ⟨rfl, hbb⟩
          exact ⟨rfl, hX.trans (hbb.mono hX.size)⟩
        clear hb1 hv
        go_wp2_with (go_at_call 66; first | (with_reducible refine (S1.out _ (by assumption)).mono ?_; rintro e w2 ⟨rfl, hb2⟩; have G2 := G1.below (hb2.mono (by omega)); have b0 := G2.b0; have b1 := G2.b1; obtain ⟨r0, r1, g0, g1⟩ := two_cells ((hb2.block (w.heap.size + 1) (by omega)).trans HR.out)) | (with_reducible refine (S2.out _ (by assumption)).mono ?_; rintro e w2 ⟨rfl, hb2⟩; have G2 := G1.below (hb2.mono (by omega)); have b0 := G2.b0; have b1 := G2.b1; obtain ⟨r0, r1, g0, g1⟩ := two_cells ((hb2.block (w.heap.size + 1) (by omega)).trans HR.out)) | (with_reducible refine (S3.out _ (by assumption)).mono ?_; rintro e w2 ⟨rfl, hb2⟩; have G2 := G1.below (hb2.mono (by omega)); have b0 := G2.b0; have b1 := G2.b1; obtain ⟨r0, r1, g0, g1⟩ := two_cells ((hb2.block (w.heap.size + 1) (by omega)).trans HR.out)) | (with_reducible refine (S4.out _ (by assumption)).mono ?_; rintro e w2 ⟨rfl, hb2⟩; have G2 := G1.below (hb2.mono (by omega)); have b0 := G2.b0; have b1 := G2.b1; obtain ⟨r0, r1, g0, g1⟩ := two_cells ((hb2.block (w.heap.size + 1) (by omega)).trans HR.out)))
        have HR2 := Lib.hid ((hb2.block (w.heap.size + 1) (by omega)).trans HR.out)
        have HD2 := Lib.hid (HD.out.trans (hb2.mono HD.out.size))
        have hfin := two_set (a := .int .i64 0) (b := .slice none 0 0) HR2.out
        refine bodyPost_ret (v := .tuple #[.agg #[.int .i64 0, .slice none 0 0], .int .i64 5]) (results_cell2 (p := 10) (u := 11) (ty := 26) rfl _ _ (w.heap.size + 1) 26 _ (0, 0) _ rfl hfin Tryd.underlying26 rfl (by exact info27)) rfl ⟨⟨_, rfl, Own.nil _ _⟩, ?_⟩
        exact (HD2.out.setCell (p := ⟨w.heap.size + 1, 0, none⟩) (by simp) _).setCell (p := ⟨w.heap.size + 1, 1, none⟩) (by simp) _
      | false =>
        cases z4 with
        | true =>
          go_enter Tryd.func24, Tryd.ntmps24
          go_wp2_with fail
          rw [← hW]
          clear hW
          refine hv.mono ?_
          rintro e w1 ⟨rfl, hb1⟩
          have q1 := hb1.size
          have HR := Lib.hid ((hb1.block (w.heap.size + 1) (by omega)).trans HR0.out)
          have HD := Lib.hid (HD0.out.trans (hb1.mono HD0.out.size))
          have G1 := HG0.out.below (hb1.mono (by omega))
          have b0 := G1.b0
          have b1 := G1.b1
          have hbr := Below.refl w1.heap.size w1
          have S1 : Hid (∀ X, Below w1.heap.size w1 X → Calls Tryd.prog 66 #[.agg #[.int .i64 zs.length, .slice (some ⟨b, off, none⟩) zs.length cap], .int .i64 p, .int .i64 q] X fun e w' => e = .returned (.bool true) ∧ Below w1.heap.size w1 w') := fun X hX => by
            have GX := G1.below (hX.mono (by omega))
            refine (has_any zs.length b off zs.length cap (el zs p) p q X GX.lb (GX.cells p (by omega)) (by omega) (by omega) (by omega) (by omega) (HZ.out p (by omega)).1 (HZ.out p (by omega)).2 true (by rw [Int.toNat_natCast]; exact HS1.out)).mono ?_
            rintro e w' ⟨rfl, hbb⟩
            exact ⟨rfl, hX.trans (hbb.mono hX.size)⟩
          have S2 : Hid (∀ X, Below w1.heap.size w1 X → Calls Tryd.prog 66 #[.agg #[.int .i64 zs.length, .slice (some ⟨b, off, none⟩) zs.length cap], .int .i64 r, .int .i64 s] X fun e w' => e = .returned (.bool true) ∧ Below w1.heap.size w1 w') := fun X hX => by
            have GX := G1.below (hX.mono (by omega))
            refine (has_any zs.length b off zs.length cap (el zs r) r s X GX.lb (GX.cells r (by omega)) (by omega) (by omega) (by omega) (by omega) (HZ.out r (by omega)).1 (HZ.out r (by omega)).2 true (by rw [Int.toNat_natCast]; exact HS2.out)).mono ?_
            rintro e w' ⟨rfl, hbb⟩
            exact ⟨rfl, hX.trans (hbb.mono hX.size)⟩
          have S3 : Hid (∀ X, Below w1.heap.size w1 X → Calls Tryd.prog 66 #[.agg #[.int .i64 zs.length, .slice (some ⟨b, off, none⟩) zs.length cap], .int .i64 p, .int .i64 r] X fun e w' => e = .returned (.bool false) ∧ Below w1.heap.size w1 w') := fun X hX => by
            have GX := G1.below (hX.mono (by omega))
            refine (has_any zs.length b off zs.length cap (el zs p) p r X GX.lb (GX.cells p (by omega)) (by omega) (by omega) (by omega) (by omega) (HZ.out p (by omega)).1 (HZ.out p (by omega)).2 false (by rw [Int.toNat_natCast]; exact HS3.out)).mono ?_
            rintro e w' ⟨rfl, hbb⟩
            exact ⟨rfl, hX.trans (hbb.mono hX.size)⟩
          have S4 : Hid (∀ X, Below w1.heap.size w1 X → Calls Tryd.prog 66 #[.agg #[.int .i64 zs.length, .slice (some ⟨b, off, none⟩) zs.length cap], .int .i64 q, .int .i64 s] X fun e w' => e = .returned (.bool true) ∧ Below w1.heap.size w1 w') := fun X hX => by
            have GX := G1.below (hX.mono (by omega))
            refine (has_any zs.length b off zs.length cap (el zs q) q s X GX.lb (GX.cells q (by omega)) (by omega) (by omega) (by omega) (by omega) (HZ.out q (by omega)).1 (HZ.out q (by omega)).2 true (by rw [Int.toNat_natCast]; exact HS4.out)).mono ?_
            rintro e w' ⟨rfl, hbb⟩
            exact ⟨rfl, hX.trans (hbb.mono hX.size)⟩
          clear hb1 hv
          go_wp2_with (go_at_call 66; first | (with_reducible refine (S1.out _ (by assumption)).mono ?_; rintro e w2 ⟨rfl, hb2⟩; have G2 := G1.below (hb2.mono (by omega)); have b0 := G2.b0; have b1 := G2.b1; obtain ⟨r0, r1, g0, g1⟩ := two_cells ((hb2.block (w.heap.size + 1) (by omega)).trans HR.out)) | (with_reducible refine (S2.out _ (by assumption)).mono ?_; rintro e w2 ⟨rfl, hb2⟩; have G2 := G1.below (hb2.mono (by omega)); have b0 := G2.b0; have b1 := G2.b1; obtain ⟨r0, r1, g0, g1⟩ := two_cells ((hb2.block (w.heap.size + 1) (by omega)).trans HR.out)) | (with_reducible refine (S3.out _ (by assumption)).mono ?_; rintro e w2 ⟨rfl, hb2⟩; have G2 := G1.below (hb2.mono (by omega)); have b0 := G2.b0; have b1 := G2.b1; obtain ⟨r0, r1, g0, g1⟩ := two_cells ((hb2.block (w.heap.size + 1) (by omega)).trans HR.out)) | (with_reducible refine (S4.out _ (by assumption)).mono ?_; rintro e w2 ⟨rfl, hb2⟩; have G2 := G1.below (hb2.mono (by omega)); have b0 := G2.b0; have b1 := G2.b1; obtain ⟨r0, r1, g0, g1⟩ := two_cells ((hb2.block (w.heap.size + 1) (by omega)).trans HR.out)))
          have HR2 := Lib.hid ((hb2.block (w.heap.size + 1) (by omega)).trans HR.out)
          have HD2 := Lib.hid (HD.out.trans (hb2.mono HD.out.size))
          have hfin := two_set (a := .int .i64 0) (b := .slice none 0 0) HR2.out
          refine bodyPost_ret (v := .tuple #[.agg #[.int .i64 0, .slice none 0 0], .int .i64 5]) (results_cell2 (p := 10) (u := 11) (ty := 26) rfl _ _ (w.heap.size + 1) 26 _ (0, 0) _ rfl hfin Tryd.underlying26 rfl (by exact info27)) rfl ⟨⟨_, rfl, Own.nil _ _⟩, ?_⟩
          exact (HD2.out.setCell (p := ⟨w.heap.size + 1, 0, none⟩) (by simp) _).setCell (p := ⟨w.heap.size + 1, 1, none⟩) (by simp) _
        | false => exact absurd hq (by decide)

theorem own9 {w : World} {B : Nat} {u : Value} {L : List Int} {m : Nat} (h : Own w B u L) (hl : L.length = m) (hm : 0 < m) : ∃ g cu, u = .slice (some ⟨g, 0, none⟩) m cu ∧ Cells w g 0 L ∧ g < w.heap.size := by
  obtain ⟨g, cu, rfl, -, h1⟩ := own_some8 h hl hm
  exact ⟨g, cu, rfl, own_cells8 h hl, h1⟩
theorem rows9 {n : Int} {m : Nat} {zs : List Int} (hg : isG n zs = true) (hm : zs.length = m) : ∀ i, i < m → 0 ≤ el zs i ∧ el zs i ≤ 2 ^ m - 1 := fun i hi => by
  obtain ⟨-, -, h3, h4, -⟩ := isG_parts hg
  have hr := rowsOk_at h4 (by omega : i < zs.length)
  have a := rowOk_le hr
  rw [show n.toNat = m by omega] at a
  exact ⟨rowOk_ge hr, a⟩
/-- An edge cut out of a graph; an edge put in. -/
theorem cut9 {n : Int} {m : Nat} (b off cap : Nat) (Z : List Int) (x y : Nat) (X : World) (hm : Z.length = m) (hg : isG n Z = true) (hb : b < X.heap.size) (hc : Cells X b off Z) (hx : x < m) (hy : y < m) (hne : x ≠ y) (hz : bt (el Z x) y = true) :
    Calls Tryd.prog 68 #[.agg #[.int .i64 n, .slice (some ⟨b, off, none⟩) m cap], .int .i64 x, .int .i64 y] X fun e w' => ∃ u, e = .returned (.agg #[.int .i64 n, u]) ∧ Own w' X.heap.size u (flipL Z x y) ∧ Below X.heap.size X w' := by
  obtain ⟨h1, h2, h3, -⟩ := isG_parts hg
  have := l01Cut_some n b off cap m Z x y X hm hb hc hx hy hne (by omega) (rows9 hg hm)
  rw [cutL_flip hne (isG_row_ok hg x (by omega)) (isG_row_ok hg y (by omega)) (by omega) (by omega) hz (by rw [isG_symm hg (by omega) (by omega)]; exact hz)] at this
  exact this
theorem join9 {n : Int} {m : Nat} (b off cap : Nat) (Z : List Int) (x y : Nat) (X : World) (hm : Z.length = m) (hg : isG n Z = true) (hb : b < X.heap.size) (hc : Cells X b off Z) (hx : x < m) (hy : y < m) (hne : x ≠ y) (hz : bt (el Z x) y = false) :
    Calls Tryd.prog 67 #[.agg #[.int .i64 n, .slice (some ⟨b, off, none⟩) m cap], .int .i64 x, .int .i64 y] X fun e w' => ∃ u, e = .returned (.agg #[.int .i64 n, u]) ∧ Own w' X.heap.size u (flipL Z x y) ∧ Below X.heap.size X w' := by
  obtain ⟨h1, h2, h3, -⟩ := isG_parts hg
  have := l01Join_some n b off cap m Z x y X hm hb hc hx hy (by omega) (rows9 hg hm)
  rw [putL_flip hne hz (by rw [isG_symm hg (by omega) (by omega)]; exact hz)] at this
  exact this

set_option maxHeartbeats 6400000 in
theorem specEx_yes (b off cap : Nat) (zs : List Int) (p q r s : Nat) (w : World) (hb : b < w.heap.size) (hc : Cells w b off zs) (hg : isG zs.length zs = true) (hvs : vsOk zs.length [(p : Int), (q : Int), (r : Int), (s : Int)] 4 = true) (hf : Four zs.length p q r s) (hz1 : bt (el zs p) q = true) (hz2 : bt (el zs r) s = true) (hz3 : bt (el zs p) r = false) (hz4 : bt (el zs q) s = false) :
    Calls Tryd.prog 24 #[.agg #[.int .i64 zs.length, .slice (some ⟨b, off, none⟩) zs.length cap], .int .i64 p, .int .i64 q, .int .i64 r, .int .i64 s] w fun e w' => GRes w.heap.size zs.length (exZ zs p q r s 4) 0 e w' ∧ Below w.heap.size w w' := by
  obtain ⟨h1a, h1b, -, -, -⟩ := isG_parts hg
  have k1 := hf.ha; have k2 := hf.hb; have k3 := hf.hc; have k4 := hf.hd
  have h1 : ((p : Int) == (q : Int)) = false := by have := hf.ab; simp; omega
  have h2 : ((p : Int) == (r : Int)) = false := by have := hf.ac; simp; omega
  have h3 : ((p : Int) == (s : Int)) = false := by have := hf.ad; simp; omega
  have h4 : ((q : Int) == (r : Int)) = false := by have := hf.bc; simp; omega
  have h5 : ((q : Int) == (s : Int)) = false := by have := hf.bd; simp; omega
  have h6 : ((r : Int) == (s : Int)) = false := by have := hf.cd; simp; omega
  obtain ⟨W, hW⟩ : ∃ W, W = ((w.alloc (.cells #[.int .i64 zs.length, .slice (some ⟨b, off, none⟩) zs.length cap] 26)).alloc (.cells #[.int .i64 0, .slice none 0 0] 26)).alloc (.cells #[.int .i64 p, .int .i64 q, .int .i64 r, .int .i64 s] 2) := ⟨_, rfl⟩
  have D0 : Below w.heap.size w W := by rw [hW]; exact (((Below.refl _ _).alloc (Nat.le_refl _) _).alloc (by simp) _).alloc (by simp; omega) _
  have hsz : w.heap.size + 3 ≤ W.heap.size := by rw [hW]; simp
  have HR0 : Hid (W.heap[w.heap.size + 1]? = some (.cells #[.int .i64 0, .slice none 0 0] 26 (0, 0))) := by show _ = _; rw [hW]; exact heap_old_at (heap_new_at _ _ _ (by simp)) _
  have HX : Hid (Cells W (w.heap.size + 1 + 1) 0 [(p : Int), (q : Int), (r : Int), (s : Int)]) := by
    show Cells _ _ _ _
    rw [hW]
    exact cells4 (heap_new_at _ _ _ (by simp))
  have HG0 : Hid (GBox W w.heap.size zs.length b off cap zs) := by
    show GBox _ _ _ _ _ _ _
    rw [hW]
    exact ((GBox.new (n := zs.length) (cap := cap) hb hc).below ((Below.refl _ _).alloc (by simp) _)).below ((Below.refl _ _).alloc (by simp) _)
  have hv := verts_some zs.length b off cap zs (w.heap.size + 1 + 1) 0 4 [(p : Int), (q : Int), (r : Int), (s : Int)] W HG0.out.lb HG0.out.cells (by omega) HX.out hg (by omega) (by simp)
  rw [vc_yes hvs] at hv
  have HD0 := Lib.hid D0
  have HS1 := Lib.hid hz1; have HS2 := Lib.hid hz2; have HS3 := Lib.hid hz3; have HS4 := Lib.hid hz4
  have hzb : ∀ i, i < zs.length → 0 ≤ el zs i ∧ el zs i ≤ 9223372036854775807 := isG_row_ok hg
  have HZ := Lib.hid hzb
  clear hzb
  have HGG := Lib.hid hg
  have HF := Lib.hid hf
  clear hc hg hvs D0 HX hf hz1 hz2 hz3 hz4
  go_enter Tryd.func24, Tryd.ntmps24
  go_wp2_with fail
  rw [← hW]
  clear hW
  refine hv.mono ?_
  rintro e w1 ⟨rfl, hb1⟩
  have q1 := hb1.size
  have HR := Lib.hid ((hb1.block (w.heap.size + 1) (by omega)).trans HR0.out)
  have HD := Lib.hid (HD0.out.trans (hb1.mono HD0.out.size))
  have G1 := HG0.out.below (hb1.mono (by omega))
  have b0 := G1.b0
  have b1 := G1.b1
  have hbr := Below.refl w1.heap.size w1
  have S1 : Hid (∀ X, Below w1.heap.size w1 X → Calls Tryd.prog 66 #[.agg #[.int .i64 zs.length, .slice (some ⟨b, off, none⟩) zs.length cap], .int .i64 p, .int .i64 q] X fun e w' => e = .returned (.bool true) ∧ Below w1.heap.size w1 w') := fun X hX => by
    have GX := G1.below (hX.mono (by omega))
    refine (has_any zs.length b off zs.length cap (el zs p) p q X GX.lb (GX.cells p (by omega)) (by omega) (by omega) (by omega) (by omega) (HZ.out p (by omega)).1 (HZ.out p (by omega)).2 true (by rw [Int.toNat_natCast]; exact HS1.out)).mono ?_
    rintro e w' ⟨rfl, hbb⟩
    exact ⟨rfl, hX.trans (hbb.mono hX.size)⟩
  have S2 : Hid (∀ X, Below w1.heap.size w1 X → Calls Tryd.prog 66 #[.agg #[.int .i64 zs.length, .slice (some ⟨b, off, none⟩) zs.length cap], .int .i64 r, .int .i64 s] X fun e w' => e = .returned (.bool true) ∧ Below w1.heap.size w1 w') := fun X hX => by
    have GX := G1.below (hX.mono (by omega))
    refine (has_any zs.length b off zs.length cap (el zs r) r s X GX.lb (GX.cells r (by omega)) (by omega) (by omega) (by omega) (by omega) (HZ.out r (by omega)).1 (HZ.out r (by omega)).2 true (by rw [Int.toNat_natCast]; exact HS2.out)).mono ?_
    rintro e w' ⟨rfl, hbb⟩
    exact ⟨rfl, hX.trans (hbb.mono hX.size)⟩
  have S3 : Hid (∀ X, Below w1.heap.size w1 X → Calls Tryd.prog 66 #[.agg #[.int .i64 zs.length, .slice (some ⟨b, off, none⟩) zs.length cap], .int .i64 p, .int .i64 r] X fun e w' => e = .returned (.bool false) ∧ Below w1.heap.size w1 w') := fun X hX => by
    have GX := G1.below (hX.mono (by omega))
    refine (has_any zs.length b off zs.length cap (el zs p) p r X GX.lb (GX.cells p (by omega)) (by omega) (by omega) (by omega) (by omega) (HZ.out p (by omega)).1 (HZ.out p (by omega)).2 false (by rw [Int.toNat_natCast]; exact HS3.out)).mono ?_
    rintro e w' ⟨rfl, hbb⟩
    exact ⟨rfl, hX.trans (hbb.mono hX.size)⟩
  have S4 : Hid (∀ X, Below w1.heap.size w1 X → Calls Tryd.prog 66 #[.agg #[.int .i64 zs.length, .slice (some ⟨b, off, none⟩) zs.length cap], .int .i64 q, .int .i64 s] X fun e w' => e = .returned (.bool false) ∧ Below w1.heap.size w1 w') := fun X hX => by
    have GX := G1.below (hX.mono (by omega))
    refine (has_any zs.length b off zs.length cap (el zs q) q s X GX.lb (GX.cells q (by omega)) (by omega) (by omega) (by omega) (by omega) (HZ.out q (by omega)).1 (HZ.out q (by omega)).2 false (by rw [Int.toNat_natCast]; exact HS4.out)).mono ?_
    rintro e w' ⟨rfl, hbb⟩
    exact ⟨rfl, hX.trans (hbb.mono hX.size)⟩
  have hn0 : 0 < zs.length := by omega
  have l1 := exZ_length zs p q r s 1
  have l2 := exZ_length zs p q r s 2
  have l3 := exZ_length zs p q r s 3
  have l4 := exZ_length zs p q r s 4
  clear hb1 hv
  go_wp2_with (go_at_call 66; first | (with_reducible refine (S1.out _ (by assumption)).mono ?_; rintro e w2 ⟨rfl, hb2⟩; have G2 := G1.below (hb2.mono (by omega)); have b0 := G2.b0; have b1 := G2.b1; obtain ⟨r0, r1, g0, g1⟩ := two_cells ((hb2.block (w.heap.size + 1) (by omega)).trans HR.out)) | (with_reducible refine (S2.out _ (by assumption)).mono ?_; rintro e w2 ⟨rfl, hb2⟩; have G2 := G1.below (hb2.mono (by omega)); have b0 := G2.b0; have b1 := G2.b1; obtain ⟨r0, r1, g0, g1⟩ := two_cells ((hb2.block (w.heap.size + 1) (by omega)).trans HR.out)) | (with_reducible refine (S3.out _ (by assumption)).mono ?_; rintro e w2 ⟨rfl, hb2⟩; have G2 := G1.below (hb2.mono (by omega)); have b0 := G2.b0; have b1 := G2.b1; obtain ⟨r0, r1, g0, g1⟩ := two_cells ((hb2.block (w.heap.size + 1) (by omega)).trans HR.out)) | (with_reducible refine (S4.out _ (by assumption)).mono ?_; rintro e w2 ⟨rfl, hb2⟩; have G2 := G1.below (hb2.mono (by omega)); have b0 := G2.b0; have b1 := G2.b1; obtain ⟨r0, r1, g0, g1⟩ := two_cells ((hb2.block (w.heap.size + 1) (by omega)).trans HR.out)))
  refine (cut9 b off cap zs p q w2 rfl HGG.out G2.lb G2.cells k1 k2 HF.out.ab HS1.out).mono ?_
  rintro e w3 ⟨u, rfl, hO3, hb3⟩
  have hb3 := hb2.trans (hb3.mono hb2.size)
  obtain ⟨g3, c3, rfl, hC3, hg3⟩ := own9 hO3 l1 hn0
  go_wp2_with fail
  refine (cut9 g3 0 c3 (exZ zs p q r s 1) r s w3 l1 (exZ_g HGG.out HF.out 1) hg3 hC3 k3 k4 HF.out.cd (by rw [exZ_bit1 HF.out]; exact HS2.out)).mono ?_
  rintro e w4 ⟨u, rfl, hO4, hb4⟩
  have hb4 := hb3.trans (hb4.mono hb3.size)
  obtain ⟨g4, c4, rfl, hC4, hg4⟩ := own9 hO4 l2 hn0
  go_wp2_with fail
  refine (join9 g4 0 c4 (exZ zs p q r s 2) p r w4 l2 (exZ_g HGG.out HF.out 2) hg4 hC4 k1 k3 HF.out.ac (by rw [exZ_bit2 HF.out]; exact HS3.out)).mono ?_
  rintro e w5 ⟨u, rfl, hO5, hb5⟩
  have hb5 := hb4.trans (hb5.mono hb4.size)
  obtain ⟨g5, c5, rfl, hC5, hg5⟩ := own9 hO5 l3 hn0
  go_wp2_with fail
  refine (join9 g5 0 c5 (exZ zs p q r s 3) q s w5 l3 (exZ_g HGG.out HF.out 3) hg5 hC5 k2 k4 HF.out.bd (by rw [exZ_bit3 HF.out]; exact HS4.out)).mono ?_
  rintro e w6 ⟨u, rfl, hO6, hb6⟩
  have q5 := hb5.size
  have hb6 := hb5.trans (hb6.mono hb5.size)
  obtain ⟨ua, ul, uc, rfl⟩ := slice_of hO6
  have HO6 : Hid (Own w6 w5.heap.size (.slice ua ul uc) (exZ zs p q r s 4)) := hO6
  have HR6 := Lib.hid ((hb6.block (w.heap.size + 1) (by omega)).trans HR.out)
  have HD6 := Lib.hid (HD.out.trans (hb6.mono HD.out.size))
  obtain ⟨r0, r1, g0, g1⟩ := two_cells HR6.out
  clear hb2 hb3 hb4 hb5 hb6 hO3 hO4 hO5 hO6 b0 b1 hC3 hC4 hC5
  go_wp2
  have hfin := two_set (a := .int .i64 zs.length) (b := .slice ua ul uc) HR6.out
  refine bodyPost_ret (v := .tuple #[.agg #[.int .i64 zs.length, .slice ua ul uc], .int .i64 0]) (results_cell2 (p := 10) (u := 11) (ty := 26) rfl _ _ (w.heap.size + 1) 26 _ (0, 0) _ rfl hfin Tryd.underlying26 rfl (by exact info27)) rfl ⟨⟨_, rfl, ?_⟩, ?_⟩
  · have hne : (Value.slice ua ul uc).ownBlock ≠ some (w.heap.size + 1) := fun e => by have := HO6.out.ge _ e; omega
    exact (HO6.out.base (by omega)).kept (grown_set (grown_set ⟨rfl, rfl, rfl, Nat.le_refl _, fun _ _ _ => rfl⟩ _ 0 _) _ 1 _) (.inr hne)
  · exact (HD6.out.setCell (p := ⟨w.heap.size + 1, 0, none⟩) (by simp) _).setCell (p := ⟨w.heap.size + 1, 1, none⟩) (by simp) _

theorem specEx_any (n : Int) (v : Value) (zs : List Int) (p q r s : Int) (w : World) (h : Sl w v zs) (hl : zs.length ≤ 9223372036854775807) :
    Calls Tryd.prog 24 #[.agg #[.int .i64 n, v], .int .i64 p, .int .i64 q, .int .i64 r, .int .i64 s] w fun e w' => GRes w.heap.size (exN n zs p q r s) (exD n zs p q r s) (exC n zs p q r s) e w' ∧ Below w.heap.size w w' := by
  have D0 : Below w.heap.size w (((w.alloc (.cells #[.int .i64 n, v] 26)).alloc (.cells #[.int .i64 0, .slice none 0 0] 26)).alloc (.cells #[.int .i64 p, .int .i64 q, .int .i64 r, .int .i64 s] 2)) := (((Below.refl _ _).alloc (Nat.le_refl _) _).alloc (by simp) _).alloc (by simp; omega) _
  unfold exN exD exC exOk
  cases hg : isG n zs with
  | false => exact specEx_code n v p q r s 1 w _ rfl (by decide) (verts_no n v _ zs _ (h.below D0) hg hl)
  | true =>
    obtain ⟨h1, _, h3, _⟩ := isG_parts hg
    obtain ⟨b, off, cap, rfl, hb, hc⟩ := sl_some h (by omega)
    cases hvs : vsOk n [p, q, r, s] 4 with
    | false =>
      refine specEx_code n _ p q r s 2 w _ rfl (by decide) ?_
      have hv := verts_some n b off cap zs (w.heap.size + 1 + 1) 0 4 [p, q, r, s] _ (Nat.lt_of_lt_of_le hb D0.size) (hc.below D0 hb) (by simp) (cells4 (heap_new_at _ _ _ (by simp))) hg hl (by simp)
      rw [vc_no hvs] at hv
      exact hv
    | true =>
      obtain rfl : (zs.length : Int) = n := h3
      obtain ⟨v1, v2, v3, v4⟩ := vs4_parts hvs
      obtain ⟨p, rfl⟩ := Int.eq_ofNat_of_zero_le v1.1
      obtain ⟨q, rfl⟩ := Int.eq_ofNat_of_zero_le v2.1
      obtain ⟨r, rfl⟩ := Int.eq_ofNat_of_zero_le v3.1
      obtain ⟨s, rfl⟩ := Int.eq_ofNat_of_zero_le v4.1
      cases hd : exDf (p : Int) q r s with
      | false =>
        simp only [Bool.and_true, Bool.and_false, Bool.false_and, if_true, if_false, Bool.false_eq_true]
        refine specEx_same b off cap zs p q r s w hb hc hg hvs _ _ _ _ _ _ rfl rfl rfl rfl rfl rfl ?_
        unfold exDf at hd
        have hd := of_decide_eq_false hd
        simp only [Bool.or_eq_true, beq_iff_eq]
        omega
      | true =>
        have hf : Four zs.length p q r s := by
          unfold exDf at hd
          have hd := of_decide_eq_true hd
          exact ⟨by omega, by omega, by omega, by omega, by omega, by omega, by omega, by omega, by omega, by omega⟩
        cases hst : exSt zs (p : Int) q r s with
        | false =>
          simp only [Bool.and_true, Bool.and_false, if_true, if_false, Bool.false_eq_true]
          unfold exSt at hst
          simp only [Int.toNat_natCast] at hst
          exact specEx_state b off cap zs p q r s w hb hc hg hvs hf _ _ _ _ rfl rfl rfl rfl hst
        | true =>
          simp only [Bool.and_true, if_true, Int.toNat_natCast]
          unfold exSt at hst
          simp only [Int.toNat_natCast, Bool.and_eq_true, Bool.not_eq_true'] at hst
          exact specEx_yes b off cap zs p q r s w hb hc hg hvs hf hst.1.1.1 hst.1.1.2 hst.1.2 hst.2
end Go.Proofs.YtabkfihhfkmioaaDoor
