/-
  DegreeOfDigraph: both programs.
-/
import Derived.Test.YtbncfhmpkoaffaaDoorRw8
import Derived.Test.YtbncfhmpkoaffaaDoorDeg
namespace Go.Proofs.YtbncfhmpkoaffaaDoor
set_option maxRecDepth 100000
set_option maxRecDepth 100000
open Go.RowKit

/-- Whether vertex i has as many arcs out and in as vertex 0 has out. -/
def dgB (zs : List Int) (i : Nat) : Bool := decide (pc (nat zs i) = pc (nat zs 0)) && decide (pc (tcol (nat zs) zs.length i) = pc (nat zs 0))
def dgTo (zs : List Int) (k : Nat) : Bool := (List.range k).all (dgB zs)
theorem dgTo_succ (zs : List Int) (k : Nat) : dgTo zs (k + 1) = (dgTo zs k && dgB zs k) := by simp [dgTo, List.range_succ]
theorem dgTo_no {zs : List Int} {k m : Nat} (hk : k < m) (h : dgB zs k = false) : dgTo zs m = false := by
  cases e : dgTo zs m with
  | false => rfl
  | true =>
    unfold dgTo at e; rw [List.all_eq_true] at e
    rw [e k (List.mem_range.2 hk)] at h; exact absurd h (by simp)
/-- The degree, -1 without one. -/
def dgD (zs : List Int) : Int := if dgTo zs zs.length then ((pc (nat zs 0) : Nat) : Int) else -1

theorem rvL_big {n : Int} {zs : List Int} (hg : DgOk n zs) {i : Nat} (hi : i < zs.length) : 0 ≤ el (rvL zs) i ∧ el (rvL zs) i ≤ 9223372036854775807 := by
  rw [el_rvL zs i hi]
  have h1 := tcol_lt (nat zs) i zs.length
  have h2 : 2 ^ zs.length ≤ 2 ^ 62 := Nat.pow_le_pow_right (by decide) hg.le
  have h3 : (2 : Nat) ^ 62 = 4611686018427387904 := by decide
  omega

set_option maxHeartbeats 1600000 in
theorem l08Deg_some (n : Int) (b off cap : Nat) (zs : List Int) (w : World) (hb : b < w.heap.size) (hc : Cells w b off zs) (hg : DgOk n zs) :
    Calls Tryd.prog 55 #[.agg #[.int .i64 n, .slice (some ⟨b, off, none⟩) zs.length cap]] w fun e w' => e = .returned (.int .i64 (dgD zs)) ∧ Below w.heap.size w w' := by
  have D0 : Below w.heap.size w (w.alloc (.cells #[.int .i64 n, .slice (some ⟨b, off, none⟩) zs.length cap] 29)) := (Below.refl _ _).alloc (Nat.le_refl _) _
  have HG0 := Lib.hid (GBox.newD (n := n) (cap := cap) hb hc)
  have hrv := l08Rev_some n b off cap zs _ (Nat.lt_of_lt_of_le hb D0.size) (hc.below D0 hb) hg
  have HD := Lib.hid D0
  have HG := Lib.hid hg
  have hp0 : 0 < zs.length := hg.pos
  have hl62 : zs.length ≤ 62 := hg.le
  have hp0i : (0 : Int) < zs.length := by omega
  have z00 := hg.ge 0
  have z01 := hg.big 0
  have hb0 := fun W => bits_any (el zs 0) W z00 z01
  clear hc D0 hg
  go_enter Tryd.func55, Tryd.ntmps55
  go_wp2_with (first
    | (go_at_call 51; refine hrv.mono ?_; rintro e w1 ⟨⟨u, rfl, hO⟩, hb1⟩; obtain ⟨gr, uc, rfl, hgr1, hgr2⟩ := own_some8 hO (rvL_length zs) hp0; have HO := Lib.hid hO; have HB1 := Lib.hid (hb1.mono (by simp : w.heap.size + 1 ≤ _)); obtain ⟨W, hW⟩ : ∃ W, W = w1.alloc (.cells #[.int .i64 n, .slice (some ⟨gr, 0, none⟩) zs.length uc] 29) := ⟨_, rfl⟩; have HX : Hid (W.heap[w1.heap.size]? = some (.cells #[.int .i64 n, .slice (some ⟨gr, 0, none⟩) zs.length uc] 29 (0, 0))) := (by rw [hW]; exact World.alloc_heap_new w1 _); have HB2 : Hid (Below w1.heap.size w1 W) := (by rw [hW]; exact (Below.refl _ _).alloc (Nat.le_refl _) _); have G1 := HG0.out.below (HB1.out.trans (HB2.out.mono (by have := HB1.out.size; simpa using this))); have b1 := G1.b1; have c0 := G1.cells 0 hp0; rw [Nat.add_zero] at c0; rw [hW] at b1 c0; clear hO hb1)
    | (go_at_call 76; rw [← hW]; refine (hb0 _).mono ?_; rintro e w' ⟨rfl, rfl⟩))
  rw [← hW]
  clear b1 c0 hW hrv hb0
  have G1 := HG0.out.below (HB1.out.trans (HB2.out.mono (by have := HB1.out.size; simpa using this)))
  have HRC : Hid (Cells W gr 0 (rvL zs)) := (own_cells8 HO.out (rvL_length zs)).below HB2.out hgr2
  have b1 := G1.b1
  obtain ⟨x0, x1, -, -⟩ := two_cells HX.out
  have HGC := Lib.hid G1.cells
  obtain ⟨K, hK⟩ : ∃ K, K = pc (nat zs 0) := ⟨_, rfl⟩
  have hK' : pc (el zs 0).toNat = K := hK.symm
  rw [hK']
  have HK := Lib.hid hK
  have hK64 : K ≤ 64 := by rw [hK]; exact pc_le _
  have HF : Hid (Below w.heap.size w W) := HD.out.trans ((HB1.out.trans (HB2.out.mono (by have := HB1.out.size; simpa using this))).mono (by simp))
  clear hK hK' G1 z00 z01
  go_loop [5] (fun t => ∃ k : Nat, k ≤ zs.length ∧ t = .int .i64 k ∧ Hid (dgTo zs k = true)) (fun t => zs.length - (intOf t).toNat)
  case atStart => exact ⟨0, Nat.zero_le _, rfl, rfl⟩
  case round =>
    obtain ⟨k, hk, rfl, HT⟩ := hrel
    by_cases hlt : (k : Int) < zs.length
    · have hkl : k < zs.length := by omega
      have hk0 : (0 : Int) ≤ k := by omega
      have c1 : W.cell? ⟨b, off + k, none⟩ = some (.int .i64 (el zs k)) := HGC.out k hkl
      have c2 : W.cell? ⟨gr, k, none⟩ = some (.int .i64 (el (rvL zs) k)) := by
        have := HRC.out k (by rw [rvL_length]; exact hkl)
        rwa [Nat.zero_add] at this
      have hb1 := fun W => bits_any (el zs k) W (HG.out.ge k) (HG.out.big k)
      have hb2 := fun W => bits_any (el (rvL zs) k) W (rvL_big HG.out hkl).1 (rvL_big HG.out hkl).2
      have HB : Hid (dgB zs k = (decide (pc (el zs k).toNat = K) && decide (pc (el (rvL zs) k).toNat = K))) := by
        show _ = _; rw [el_rvL zs k hkl, HK.out, Int.toNat_natCast]; rfl
      obtain ⟨p1, hp1⟩ : ∃ p, p = pc (el zs k).toNat := ⟨_, rfl⟩
      obtain ⟨p2, hp2⟩ : ∃ p, p = pc (el (rvL zs) k).toNat := ⟨_, rfl⟩
      rw [← hp1] at hb1 HB
      rw [← hp2] at hb2 HB
      have h1e : p1 ≤ 64 := by rw [hp1]; exact pc_le _
      have h2e : p2 ≤ 64 := by rw [hp2]; exact pc_le _
      clear hp1 hp2
      by_cases e1 : p1 = K
      · have t1 : ((p1 : Int) != (K : Int)) = false := by simp; omega
        by_cases e2 : p2 = K
        · have t2 : ((p2 : Int) != (K : Int)) = false := by simp; omega
          have HT2 : Hid (dgTo zs (k + 1) = true) := by show _ = _; rw [dgTo_succ, HT.out, HB.out, decide_eq_true e1, decide_eq_true e2]; rfl
          clear e1 e2 HB
          go_wp2_with (first | (go_at_call 76; with_reducible refine (hb1 _).mono ?_; rintro e w' ⟨rfl, rfl⟩) | (go_at_call 76; with_reducible refine (hb2 _).mono ?_; rintro e w' ⟨rfl, rfl⟩))
          go_round
          case rel => exact ⟨k + 1, by omega, by go_num, HT2⟩
          case measure => simp [intOf]; omega
        · have t2 : ((p2 : Int) != (K : Int)) = true := by simp; omega
          have HT2 : Hid (dgD zs = -1) := by show _ = _; unfold dgD; rw [dgTo_no hkl (by rw [HB.out, decide_eq_false e2, Bool.and_false])]; rfl
          clear e1 e2 HB
          go_wp2_with (first | (go_at_call 76; with_reducible refine (hb1 _).mono ?_; rintro e w' ⟨rfl, rfl⟩) | (go_at_call 76; with_reducible refine (hb2 _).mono ?_; rintro e w' ⟨rfl, rfl⟩))
          go_ret
          exact ⟨ret_int HT2.out.symm, HF.out⟩
      · have t1 : ((p1 : Int) != (K : Int)) = true := by simp; omega
        have HT2 : Hid (dgD zs = -1) := by show _ = _; unfold dgD; rw [dgTo_no hkl (by rw [HB.out, decide_eq_false e1, Bool.false_and])]; rfl
        clear e1 HB hb2
        go_wp2_with (go_at_call 76; with_reducible refine (hb1 _).mono ?_; rintro e w' ⟨rfl, rfl⟩)
        go_ret
        exact ⟨ret_int HT2.out.symm, HF.out⟩
    · obtain rfl : k = zs.length := by omega
      have HT2 : Hid (dgD zs = (K : Int)) := by show _ = _; unfold dgD; rw [HT.out, if_pos rfl, ← HK.out]
      go_wp2
      go_ret
      exact ⟨ret_int HT2.out.symm, HF.out⟩

/-- The degree and its code. -/
def deD (n : Int) (zs : List Int) : Int := if isD n zs then (if dgTo zs zs.length then ((pc (nat zs 0) : Nat) : Int) else 0) else 0
def deC (n : Int) (zs : List Int) : Int := if isD n zs then (if dgTo zs zs.length then 0 else 5) else 1

set_option maxHeartbeats 1600000 in
theorem specDe_yes (n : Int) (b off cap : Nat) (zs : List Int) (w : World) (hb : b < w.heap.size) (hc : Cells w b off zs) (hl : zs.length ≤ 9223372036854775807) (hd : isD n zs = true) (r : Bool) (hr : dgTo zs zs.length = r) :
    Calls Tryd.prog 26 #[.agg #[.int .i64 n, .slice (some ⟨b, off, none⟩) zs.length cap]] w fun e w' => e = .returned (.tuple #[.int .i64 (if r then ((pc (nat zs 0) : Nat) : Int) else 0), .int .i64 (if r then 0 else 5)]) ∧ Below w.heap.size w w' := by
  have D0 : Below w.heap.size w (w.alloc (.cells #[.int .i64 n, .slice (some ⟨b, off, none⟩) zs.length cap] 29)) := (Below.refl _ _).alloc (Nat.le_refl _) _
  have his := l08Is_some n b off cap zs _ (Nat.lt_of_lt_of_le hb D0.size) (hc.below D0 hb) hl
  rw [hd] at his
  have HG0 := Lib.hid (GBox.newD (n := n) (cap := cap) hb hc)
  have HDG := Lib.hid (dg_ok hd)
  have HD := Lib.hid D0
  have hdg : ∀ W1, GBox W1 w.heap.size n b off cap zs → Calls Tryd.prog 55 #[.agg #[.int .i64 n, .slice (some ⟨b, off, none⟩) zs.length cap]] W1 fun e w' => e = .returned (.int .i64 (if r then ((pc (nat zs 0) : Nat) : Int) else -1)) ∧ Below W1.heap.size W1 w' := fun W1 G => by
    have := l08Deg_some n b off cap zs W1 G.lb G.cells HDG.out
    unfold dgD at this
    rw [hr] at this
    exact this
  have HDE := Lib.hid hdg
  have hpk := pc_le (nat zs 0)
  generalize pc (nat zs 0) = K at HDE hpk ⊢
  clear hc hd D0 hr hdg
  cases r with
  | true =>
    rw [if_pos rfl, if_pos rfl]
    have hk0 : ¬ (K : Int) < 0 := by omega
    go_enter Tryd.func26, Tryd.ntmps26
    go_wp2_with (first
      | (go_at_call 42; refine his.mono ?_; rintro e w1 ⟨rfl, hb1⟩; have HB1 := Lib.hid hb1; have G1 := HG0.out.below (hb1.mono (by simp)); have b0 := G1.b0; have b1 := G1.b1; have HG1 := Lib.hid G1; clear hb1)
      | (go_at_call 55; refine (HDE.out _ HG1.out).mono ?_; rintro e w2 ⟨rfl, hb2⟩; have HB2 := Lib.hid (HD.out.trans ((HB1.out.trans (hb2.mono HB1.out.size)).mono HD.out.size)); clear hb2))
    go_ret2
    exact ⟨rfl, HB2.out⟩
  | false =>
    rw [if_neg (by simp), if_neg (by simp)]
    go_enter Tryd.func26, Tryd.ntmps26
    go_wp2_with (first
      | (go_at_call 42; refine his.mono ?_; rintro e w1 ⟨rfl, hb1⟩; have HB1 := Lib.hid hb1; have G1 := HG0.out.below (hb1.mono (by simp)); have b0 := G1.b0; have b1 := G1.b1; have HG1 := Lib.hid G1; clear hb1)
      | (go_at_call 55; refine (HDE.out _ HG1.out).mono ?_; rintro e w2 ⟨rfl, hb2⟩; have HB2 := Lib.hid (HD.out.trans ((HB1.out.trans (hb2.mono HB1.out.size)).mono HD.out.size)); clear hb2))
    go_ret2
    exact ⟨rfl, HB2.out⟩

set_option maxHeartbeats 1600000 in
theorem specDe_no (n : Int) (v : Value) (zs : List Int) (w : World) (hs : Sl w v zs) (hl : zs.length ≤ 9223372036854775807) (hd : isD n zs = false) :
    Calls Tryd.prog 26 #[.agg #[.int .i64 n, v]] w fun e w' => e = .returned (.tuple #[.int .i64 0, .int .i64 1]) ∧ Below w.heap.size w w' := by
  have D0 : Below w.heap.size w (w.alloc (.cells #[.int .i64 n, v] 29)) := (Below.refl _ _).alloc (Nat.le_refl _) _
  have his := l08Is_any n v zs _ (hs.below D0) hl
  rw [hd] at his
  have HD := Lib.hid D0
  clear hs hd D0
  go_enter Tryd.func26, Tryd.ntmps26
  go_wp2_with (go_at_call 42; refine his.mono ?_; rintro e w1 ⟨rfl, hb1⟩; have HB1 := Lib.hid (HD.out.trans (hb1.mono HD.out.size)); clear hb1)
  go_ret2
  exact ⟨rfl, HB1.out⟩

theorem specDe_any (n : Int) (v : Value) (zs : List Int) (w : World) (hs : Sl w v zs) (hl : zs.length ≤ 9223372036854775807) :
    Calls Tryd.prog 26 #[.agg #[.int .i64 n, v]] w fun e w' => e = .returned (.tuple #[.int .i64 (deD n zs), .int .i64 (deC n zs)]) ∧ Below w.heap.size w w' := by
  unfold deD deC
  cases hd : isD n zs with
  | false => exact specDe_no n v zs w hs hl hd
  | true =>
    rcases hs with ⟨a, c, rfl, rfl⟩ | ⟨b, off, cap, rfl, hb, hc⟩
    · rw [isD_nil] at hd; exact absurd hd (by simp)
    · exact specDe_yes n b off cap zs w hb hc hl hd _ rfl

set_option maxHeartbeats 1600000 in
theorem implDe_no (n : Int) (v : Value) (zs : List Int) (w : World) (hs : Sl w v zs) (hl : zs.length ≤ 9223372036854775807) (hT : TabE w) (hd : isD n zs = false) :
    Calls Tryd.prog 27 #[.agg #[.int .i64 n, v]] w fun e w' => e = .returned (.tuple #[.int .i64 0, .int .i64 1]) ∧ Below w.heap.size w w' := by
  have D0 : Below w.heap.size w (w.alloc (.cells #[.int .i64 n, v] 29)) := (Below.refl _ _).alloc (Nat.le_refl _) _
  have his := implRv_any n v zs _ (hs.below D0) hl (hT.belowAll D0)
  unfold rvN rvR dC at his
  rw [hd, if_neg (by simp), if_neg (by simp), if_neg (by simp)] at his
  have HD := Lib.hid D0
  clear hs hd D0 hT
  go_enter Tryd.func27, Tryd.ntmps27
  go_wp2_with (go_at_call 25; refine his.mono ?_; rintro e w1 ⟨⟨u, rfl, hO⟩, hb1⟩; obtain ⟨ua, ul, uc, rfl⟩ := own_slice8 hO; have HB1 := Lib.hid (HD.out.trans (hb1.mono HD.out.size)); clear hb1 hO)
  go_ret2
  exact ⟨rfl, HB1.out.alloc HB1.out.size _⟩

set_option maxHeartbeats 1600000 in
theorem implDe_yes (n : Int) (b off cap : Nat) (zs : List Int) (w : World) (hb : b < w.heap.size) (hc : Cells w b off zs) (hl : zs.length ≤ 9223372036854775807) (hT : TabE w) (hd : isD n zs = true) :
    Calls Tryd.prog 27 #[.agg #[.int .i64 n, .slice (some ⟨b, off, none⟩) zs.length cap]] w fun e w' => e = .returned (.tuple #[.int .i64 (if dgTo zs zs.length then ((pc (nat zs 0) : Nat) : Int) else 0), .int .i64 (if dgTo zs zs.length then 0 else 5)]) ∧ Below w.heap.size w w' := by
  have D0 : Below w.heap.size w (w.alloc (.cells #[.int .i64 n, .slice (some ⟨b, off, none⟩) zs.length cap] 29)) := (Below.refl _ _).alloc (Nat.le_refl _) _
  have HG0 := Lib.hid (GBox.newD (n := n) (cap := cap) hb hc)
  have hrv := implRv_any n _ zs _ (.inr ⟨b, off, cap, rfl, Nat.lt_of_lt_of_le hb D0.size, hc.below D0 hb⟩) hl (hT.belowAll D0)
  unfold rvN rvR dC at hrv
  rw [hd, if_pos rfl, if_pos rfl, if_pos rfl] at hrv
  have hg := dg_ok hd
  have HD := Lib.hid D0
  have HG := Lib.hid hg
  have hp0 : 0 < zs.length := hg.pos
  have hp0i : (0 : Int) < zs.length := by omega
  have z00 := hg.ge 0
  have z01 := hg.big 0
  have hb0 := fun W => countOf_any (el zs 0) W z00 z01
  obtain ⟨R, hR⟩ : ∃ R, R = dgTo zs zs.length := ⟨_, rfl⟩
  rw [← hR]
  have HR := Lib.hid hR
  obtain ⟨K, hK⟩ : ∃ K, K = pc (nat zs 0) := ⟨_, rfl⟩
  rw [← hK]
  obtain ⟨dV, hdV⟩ : ∃ x : Int, x = if R then (K : Int) else 0 := ⟨_, rfl⟩
  obtain ⟨cV, hcV⟩ : ∃ x : Int, x = if R then 0 else 5 := ⟨_, rfl⟩
  rw [← hdV, ← hcV]
  have HDV : Hid ((R = true → dV = K ∧ cV = 0) ∧ (R = false → dV = 0 ∧ cV = 5)) := ⟨fun h => by rw [hdV, hcV, h]; exact ⟨rfl, rfl⟩, fun h => by rw [hdV, hcV, h]; exact ⟨rfl, rfl⟩⟩
  clear hdV hcV
  have hK' : pc (el zs 0).toNat = K := hK.symm
  rw [hK'] at hb0
  have HK := Lib.hid hK
  have hK64 : K ≤ 64 := by rw [hK]; exact pc_le _
  clear hc D0 hg hR hT hd hK hK' z00 z01
  go_enter Tryd.func27, Tryd.ntmps27
  go_wp2_with (first
    | (go_at_call 25; refine hrv.mono ?_; rintro e w1 ⟨⟨u, rfl, hO⟩, hb1⟩; obtain ⟨gr, uc, rfl, hgr1, hgr2⟩ := own_some8 hO (rvL_length zs) hp0; have HO := Lib.hid hO; have HB1 := Lib.hid (hb1.mono (by simp : w.heap.size + 1 ≤ _)); obtain ⟨W, hW⟩ : ∃ W, W = w1.alloc (.cells #[.int .i64 n, .slice (some ⟨gr, 0, none⟩) zs.length uc] 29) := ⟨_, rfl⟩; have HX : Hid (W.heap[w1.heap.size]? = some (.cells #[.int .i64 n, .slice (some ⟨gr, 0, none⟩) zs.length uc] 29 (0, 0))) := (by rw [hW]; exact World.alloc_heap_new w1 _); have HB2 : Hid (Below w1.heap.size w1 W) := (by rw [hW]; exact (Below.refl _ _).alloc (Nat.le_refl _) _); have G1 := HG0.out.below (HB1.out.trans (HB2.out.mono (by have := HB1.out.size; simpa using this))); have b1 := G1.b1; have c0 := G1.cells 0 hp0; rw [Nat.add_zero] at c0; rw [hW] at b1 c0; clear hO hb1)
    | (go_at_call 56; rw [← hW]; refine (hb0 _).mono ?_; rintro e w' ⟨rfl, rfl⟩; rw [hW]))
  rw [← hW]
  clear b1 c0 hW hrv hb0
  have G1 := HG0.out.below (HB1.out.trans (HB2.out.mono (by have := HB1.out.size; simpa using this)))
  have HRC : Hid (Cells W gr 0 (rvL zs)) := (own_cells8 HO.out (rvL_length zs)).below HB2.out hgr2
  have b1 := G1.b1
  obtain ⟨x0, x1, -, -⟩ := two_cells HX.out
  have HGC := Lib.hid G1.cells
  have HF : Hid (Below w.heap.size w W) := HD.out.trans ((HB1.out.trans (HB2.out.mono (by have := HB1.out.size; simpa using this))).mono (by simp))
  clear G1
  go_loop [7, 8, 25] (fun _ _ t => ∃ k : Nat, k ≤ zs.length ∧ t = .int .i64 k ∧ Hid (dgTo zs k = true)) (fun _ _ t => zs.length - (intOf t).toNat)
  case atStart => exact ⟨0, Nat.zero_le _, rfl, rfl⟩
  case round =>
    obtain ⟨k, hk, rfl, HT⟩ := hrel
    by_cases hlt : (k : Int) < zs.length
    · have hkl : k < zs.length := by omega
      have hk0 : (0 : Int) ≤ k := by omega
      have c1 : W.cell? ⟨b, off + k, none⟩ = some (.int .i64 (el zs k)) := HGC.out k hkl
      have c2 : W.cell? ⟨gr, k, none⟩ = some (.int .i64 (el (rvL zs) k)) := by
        have := HRC.out k (by rw [rvL_length]; exact hkl)
        rwa [Nat.zero_add] at this
      have hb1 := fun W => countOf_any (el zs k) W (HG.out.ge k) (HG.out.big k)
      have hb2 := fun W => countOf_any (el (rvL zs) k) W (rvL_big HG.out hkl).1 (rvL_big HG.out hkl).2
      have HB : Hid (dgB zs k = (decide (pc (el zs k).toNat = K) && decide (pc (el (rvL zs) k).toNat = K))) := by
        show _ = _; rw [el_rvL zs k hkl, HK.out, Int.toNat_natCast]; rfl
      obtain ⟨p1, hp1⟩ : ∃ p, p = pc (el zs k).toNat := ⟨_, rfl⟩
      obtain ⟨p2, hp2⟩ : ∃ p, p = pc (el (rvL zs) k).toNat := ⟨_, rfl⟩
      rw [← hp1] at hb1 HB
      rw [← hp2] at hb2 HB
      have h1e : p1 ≤ 64 := by rw [hp1]; exact pc_le _
      have h2e : p2 ≤ 64 := by rw [hp2]; exact pc_le _
      clear hp1 hp2
      by_cases e1 : p1 = K
      · have t1 : ((p1 : Int) != (K : Int)) = false := by simp; omega
        by_cases e2 : p2 = K
        · have t2 : ((p2 : Int) != (K : Int)) = false := by simp; omega
          have HT2 : Hid (dgTo zs (k + 1) = true) := by show _ = _; rw [dgTo_succ, HT.out, HB.out, decide_eq_true e1, decide_eq_true e2]; rfl
          clear e1 e2 HB
          go_wp2_with (first | (go_at_call 56; with_reducible refine (hb1 _).mono ?_; rintro e w' ⟨rfl, rfl⟩) | (go_at_call 56; with_reducible refine (hb2 _).mono ?_; rintro e w' ⟨rfl, rfl⟩))
          go_round
          case rel => exact ⟨k + 1, by omega, by go_num, HT2⟩
          case measure => simp [intOf]; omega
        · have t2 : ((p2 : Int) != (K : Int)) = true := by simp; omega
          have HR2 : Hid (R = false) := by show _ = _; rw [HR.out]; exact dgTo_no hkl (by rw [HB.out, decide_eq_false e2, Bool.and_false])
          clear e1 e2 HB
          go_wp2_with (first | (go_at_call 56; with_reducible refine (hb1 _).mono ?_; rintro e w' ⟨rfl, rfl⟩) | (go_at_call 56; with_reducible refine (hb2 _).mono ?_; rintro e w' ⟨rfl, rfl⟩))
          go_ret2
          exact ⟨by rw [(HDV.out.2 HR2.out).1, (HDV.out.2 HR2.out).2]; rfl, HF.out⟩
      · have t1 : ((p1 : Int) != (K : Int)) = true := by simp; omega
        have HR2 : Hid (R = false) := by show _ = _; rw [HR.out]; exact dgTo_no hkl (by rw [HB.out, decide_eq_false e1, Bool.false_and])
        clear e1 HB hb2
        go_wp2_with (go_at_call 56; with_reducible refine (hb1 _).mono ?_; rintro e w' ⟨rfl, rfl⟩)
        go_ret2
        exact ⟨by rw [(HDV.out.2 HR2.out).1, (HDV.out.2 HR2.out).2]; rfl, HF.out⟩
    · obtain rfl : k = zs.length := by omega
      have HR2 : Hid (R = true) := by show _ = _; rw [HR.out]; exact HT.out
      go_wp2
      go_ret2
      exact ⟨by rw [(HDV.out.1 HR2.out).1, (HDV.out.1 HR2.out).2]; rfl, HF.out⟩

theorem implDe_any (n : Int) (v : Value) (zs : List Int) (w : World) (hs : Sl w v zs) (hl : zs.length ≤ 9223372036854775807) (hT : TabE w) :
    Calls Tryd.prog 27 #[.agg #[.int .i64 n, v]] w fun e w' => e = .returned (.tuple #[.int .i64 (deD n zs), .int .i64 (deC n zs)]) ∧ Below w.heap.size w w' := by
  unfold deD deC
  cases hd : isD n zs with
  | false => exact implDe_no n v zs w hs hl hT hd
  | true =>
    rcases hs with ⟨a, c, rfl, rfl⟩ | ⟨b, off, cap, rfl, hb, hc⟩
    · rw [isD_nil] at hd; exact absurd hd (by simp)
    · exact implDe_yes n b off cap zs w hb hc hl hT hd
end Go.Proofs.YtbncfhmpkoaffaaDoor
