/-
  impl.FitsBoth, and the plain facts of fitting.
-/
import Derived.Test.YtehpafbhejcbmaaDoorGo7
import Derived.Test.YtehpafbhejcbmaaDoorDegI
import Derived.Test.YtehpafbhejcbmaaDoorGy7
namespace Go.Proofs.YtehpafbhejcbmaaDoor
set_option maxRecDepth 100000
set_option maxRecDepth 100000
open Go.RowKit

theorem lm_agree {R R' : Nat → Nat → Bool} {n v w : Nat} (hR : ∀ a b, a < n → b < n → a ≠ w → R a b = R' a b) : ∀ d, (∀ e, e < d → lev R n v e w = false) → ∀ u, lev R n v d u = lev R' n v d u ∧ met R n v d u = met R' n v d u
  | 0, _, _ => ⟨rfl, rfl⟩
  | d + 1, h, u => by
    have ih := lm_agree hR d (fun e he => h e (by omega))
    have hl : lev R n v (d + 1) u = lev R' n v (d + 1) u := by
      have hne : ∀ x, lev R n v d x = true → x ≠ w := by
        rintro x h1 rfl
        rw [h d (by omega)] at h1; cases h1
      rw [Bool.eq_iff_iff, lev_succ_iff, lev_succ_iff, (ih u).2]
      constructor
      · rintro ⟨hu, hm, x, hx, h1, h2⟩
        exact ⟨hu, hm, x, hx, by rw [← (ih x).1]; exact h1, by rw [← hR x u hx hu (hne x h1)]; exact h2⟩
      · rintro ⟨hu, hm, x, hx, h1, h2⟩
        have h3 : lev R n v d x = true := by rw [(ih x).1]; exact h1
        exact ⟨hu, hm, x, hx, h3, by rw [hR x u hx hu (hne x h3)]; exact h2⟩
    refine ⟨hl, ?_⟩
    rw [met_succ, met_succ, (ih u).2, hl]
theorem dOf_agree {R R' : Nat → Nat → Bool} {n v w : Nat} (hv : v < n) (hR : ∀ a b, a < n → b < n → a ≠ w → R a b = R' a b) : dOf R n v w = dOf R' n v w := by
  by_cases h : ∃ d, lev R n v d w = true
  · obtain ⟨d, hd⟩ := h
    have h1 := (lm_agree hR d (fun e he => by
      cases hl : lev R n v e w with
      | false => rfl
      | true => exact absurd (lev_uniq hl hd) (by omega)) w).1
    rw [hd] at h1
    rw [dOf_lev hv hd, dOf_lev hv h1.symm]
  · have hno : ∀ d, lev R n v d w = false := fun d => by
      cases hl : lev R n v d w with
      | false => rfl
      | true => exact absurd ⟨d, hl⟩ h
    rw [dOf_none hno, dOf_none fun d => by rw [← (lm_agree hR d (fun e _ => hno e) w).1]; exact hno d]
/-- Without its edge two vertices are as far as without the way over the edge. -/
theorem cyD_cut {zs : List Int} {v w : Nat} (hv : v < zs.length) (hw : w < zs.length) (hb : bt (el zs v) w = true) : cyD (flipL zs v w) v 0 w = cyD zs v (2 ^ w) w := by
  unfold cyD
  rw [flipL_length]
  refine (dOf_agree hv fun a b ha hb' hne => ?_).symm
  unfold Rw
  rw [el_flip hv hw ha, if_neg hne]
  by_cases e : a = v
  · subst e
    rw [if_pos rfl, bt_flip, Nat.testBit_two_pow]
    by_cases e2 : w = b
    · subst e2; simp [hb]
    · simp [e2]
  · rw [if_neg e]; simp [e]

/-- The degrees are at most k. -/
def fbD (zs : List Int) (k : Int) (v : Nat) : Bool := (List.range v).all fun i => decide ((dg zs i : Int) ≤ k)
theorem fbD_iff {zs : List Int} {k : Int} {v : Nat} : fbD zs k v = true ↔ ∀ i, i < v → (dg zs i : Int) ≤ k := by
  unfold fbD
  rw [List.all_eq_true]
  exact ⟨fun h i hi => by simpa using h i (List.mem_range.2 hi), fun h i hi => by simpa using h i (List.mem_range.1 hi)⟩
/-- The graph fits k and c. -/
def FbB (zs : List Int) (k c : Int) : Bool := fbD zs k zs.length && decide (c ≤ gF zs (edL zs))

def mxQ (L : List Int) : Nat → Int
  | 0 => el L 0
  | k + 1 => max (mxQ L k) (el L k)
theorem mxQ_one (L : List Int) : mxQ L 1 = el L 0 := by show max (el L 0) (el L 0) = _; omega
theorem mxQ_le {L : List Int} {k : Int} : ∀ n, 0 < n → (mxQ L n ≤ k ↔ ∀ i, i < n → el L i ≤ k)
  | 0, h => by cases h
  | 1, _ => by rw [mxQ_one]; exact ⟨fun h i hi => by obtain rfl : i = 0 := by omega
                                                     exact h, fun h => h 0 (by omega)⟩
  | n + 2, _ => by
    show max (mxQ L (n + 1)) (el L (n + 1)) ≤ k ↔ _
    rw [Int.max_le, mxQ_le (n + 1) (by omega)]
    exact ⟨fun h i hi => by
      by_cases e : i = n + 1
      · rw [e]; exact h.2
      · exact h.1 i (by omega), fun h => ⟨fun i hi => h i (by omega), h (n + 1) (by omega)⟩⟩

set_option maxHeartbeats 800000 in
theorem maxQ_some (g cap : Nat) (L : List Int) (w : World) (hp : 0 < L.length) (hl : L.length ≤ 9223372036854775807) (hc : ∀ j, j < L.length → w.cell? ⟨g, j, none⟩ = some (.int .i64 (el L j))) :
    Calls Tryd.prog 44 #[.slice (some ⟨g, 0, none⟩) L.length cap] w fun e w' => e = .returned (.int .i64 (mxQ L L.length)) ∧ w = w' := by
  have h0 := hc 0 hp
  have HC := Lib.hid hc
  have hp1 : (1 : Int) ≤ L.length := by omega
  clear hc
  go_enter Tryd.func44, Tryd.ntmps44
  go_wp2
  clear h0
  go_loop [3, 4] (fun m i => ∃ k : Nat, 1 ≤ k ∧ k ≤ L.length ∧ i = .int .i64 k ∧ m = .int .i64 (mxQ L k)) (fun _ i => L.length - (intOf i).toNat)
  case atStart => exact ⟨1, Nat.le_refl _, hp, rfl, by rw [mxQ_one]⟩
  case round =>
    obtain ⟨k, hk1, hk, rfl, rfl⟩ := hrel
    obtain ⟨a, ha⟩ : ∃ a, a = mxQ L k := ⟨_, rfl⟩
    rw [← ha]
    by_cases hlt : (k : Int) < L.length
    · have hkl : k < L.length := by omega
      have hk0 : (0 : Int) ≤ k := by omega
      obtain ⟨z, hz⟩ : ∃ z, z = el L k := ⟨_, rfl⟩
      have hcell : w.cell? ⟨g, k, none⟩ = some (.int .i64 z) := by rw [hz]; exact HC.out k hkl
      have HN : Hid (mxQ L (k + 1) = max a z) := by show mxQ L (k + 1) = _; rw [ha, hz]; rfl
      clear ha hz
      go_wp2
      all_goals go_round
      all_goals first
        | exact ⟨k + 1, by omega, by omega, by go_num, congrArg (Value.int .i64) (by rw [HN.out]; omega)⟩
        | exact ⟨k + 1, by omega, by omega, by go_num, congrArg (Value.int .i64) (by rw [HN.out]; split <;> omega)⟩
        | (simp [intOf]; omega)
    · have hkl : k = L.length := by omega
      subst hkl
      go_wp2
      go_ret
      first | exact ⟨rfl, rfl⟩ | exact ⟨ret_int ha, rfl⟩

set_option maxHeartbeats 1600000 in
theorem implFb_yes (b off cap : Nat) (zs : List Int) (k c : Int) (w : World) (hb : b < w.heap.size) (hc : Cells w b off zs) (hg : isG zs.length zs = true) (hkc : kcB k c = true) (hT : Tab w) :
    Calls Tryd.prog 17 #[.agg #[.int .i64 zs.length, .slice (some ⟨b, off, none⟩) zs.length cap], .int .i64 k, .int .i64 c] w fun e w' => e = .returned (.tuple #[.bool (FbB zs k c), .int .i64 0]) ∧ Below w.heap.size w w' := by
  obtain ⟨h1a, h1b, h3, -, -⟩ := isG_parts hg
  have hc12 : c ≤ 12 := by unfold kcB at hkc; simp only [Bool.and_eq_true, decide_eq_true_eq] at hkc; omega
  have D0 : Below w.heap.size w (w.alloc (.cells #[.int .i64 zs.length, .slice (some ⟨b, off, none⟩) zs.length cap] 28)) := (Below.refl _ _).alloc (Nat.le_refl _) _
  have HIS : Hid (∀ W, Below w.heap.size w W → Calls Tryd.prog 32 #[.agg #[.int .i64 zs.length, .slice (some ⟨b, off, none⟩) zs.length cap]] W fun e w' => e = .returned (.bool true) ∧ Below W.heap.size W w') := fun W h => by
    have his := implIs_some zs.length b off cap zs W (Nat.lt_of_lt_of_le hb h.size) (hc.below h hb) (by omega) (hT.belowAll h)
    rw [hg] at his; exact his
  have HDE : Hid (∀ W, Below w.heap.size w W → Calls Tryd.prog 43 #[.agg #[.int .i64 zs.length, .slice (some ⟨b, off, none⟩) zs.length cap]] W fun e w' => LRes W.heap.size (degL zs zs.length) 0 e w' ∧ Below W.heap.size W w') := fun W h => implDeg_yes zs.length b off cap zs W (Nat.lt_of_lt_of_le hb h.size) (hc.below h hb) hg (by omega) (hT.belowAll h)
  have HGI : Hid (∀ W, Below w.heap.size w W → Calls Tryd.prog 12 #[.agg #[.int .i64 zs.length, .slice (some ⟨b, off, none⟩) zs.length cap]] W fun e w' => e = .returned (.tuple #[.int .i64 (goN zs), .int .i64 (goC zs)]) ∧ Below W.heap.size W w') := fun W h => callsIn_wide.1 (implGi_in b off cap zs W (Nat.lt_of_lt_of_le hb h.size) (hc.below h hb) hg (hT.belowAll h))
  have hdg := fun W => areDG_any k c W
  rw [hkc] at hdg
  have hn0 : 0 < zs.length := by omega
  have HM : Hid (∀ (W : World) (g cp : Nat), Own W w.heap.size (.slice (some ⟨g, 0, none⟩) zs.length cp) (degL zs zs.length) → Calls Tryd.prog 44 #[.slice (some ⟨g, 0, none⟩) zs.length cp] W fun e w' => e = .returned (.int .i64 (mxQ (degL zs zs.length) zs.length)) ∧ W = w') := fun W g cp hO => by
    have h := maxQ_some g cp (degL zs zs.length) W (by rw [degL_length]; exact hn0) (by rw [degL_length]; omega) (fun j hj => by
      have hO' := hO
      unfold Own at hO'
      rw [degL_length] at hO' hj
      exact (World.ownsRow.cellAt hO' j (by omega)).trans (map_at _ j (by rw [degL_length]; omega)))
    rw [degL_length] at h; exact h
  have HB : Hid (FbB zs k c = (decide (mxQ (degL zs zs.length) zs.length ≤ k) && (decide (goC zs = 4) || decide (c ≤ goN zs)))) := by
    show _ = _
    unfold FbB
    congr 1
    · rw [Bool.eq_iff_iff, fbD_iff, decide_eq_true_iff, mxQ_le _ hn0]
      refine forall_congr' fun i => forall_congr' fun hi => ?_
      unfold el degL
      simp [hi]
    · unfold goC goN
      by_cases e : gF zs (edL zs) = 63
      · rw [if_pos e, e, decide_eq_true (show c ≤ 63 by omega)]; rfl
      · rw [if_neg e, if_neg e]; rfl
  rw [HB.out]
  generalize mxQ (degL zs zs.length) zs.length = M at *
  generalize goN zs = G at *
  have hC4 : goC zs = 4 ∨ goC zs = 0 := by unfold goC; split <;> simp
  generalize goC zs = C at *
  have HD0 := Lib.hid D0
  have HR0 := Lib.hid (World.alloc_heap_new w (.cells #[.int .i64 zs.length, .slice (some ⟨b, off, none⟩) zs.length cap] 28))
  have HBX : Hid (∀ W W', W.heap[w.heap.size]? = some (.cells #[.int .i64 zs.length, .slice (some ⟨b, off, none⟩) zs.length cap] 28 (0, 0)) → Below W.heap.size W W' → W'.heap[w.heap.size]? = some (.cells #[.int .i64 zs.length, .slice (some ⟨b, off, none⟩) zs.length cap] 28 (0, 0))) := fun W W' h1 h2 => (h2.block _ (Array.getElem?_eq_some_iff.1 h1).1).trans h1
  obtain ⟨Wb, hWb⟩ : ∃ Wb, Wb = w.alloc (.cells #[.int .i64 zs.length, .slice (some ⟨b, off, none⟩) zs.length cap] 28) := ⟨_, rfl⟩
  rw [← hWb] at HD0 HR0
  obtain ⟨b0, b1, -, -⟩ := two_cells HR0.out
  clear hc hg hT hkc D0 h3
  go_enter Tryd.func17, Tryd.ntmps17
  go_wp2_with fail
  rw [← hWb]
  clear hWb
  go_wp2_with (first
    | (go_at_call 32; refine (HIS.out _ HD0.out).mono ?_; rintro e w1 ⟨rfl, hb1⟩; have B1 := Lib.hid (HD0.out.trans (hb1.mono HD0.out.size)); have R1 := Lib.hid (HBX.out _ _ HR0.out hb1); clear hb1; obtain ⟨b0, b1, -, -⟩ := two_cells R1.out)
    | (go_at_call 42; refine (hdg _).mono ?_; rintro e w' ⟨rfl, rfl⟩)
    | (go_at_call 43; refine (HDE.out _ B1.out).mono ?_; rintro e w2 ⟨⟨u, rfl, hO⟩, hb2⟩; have B2 := Lib.hid (B1.out.trans (hb2.mono B1.out.size)); have R2 := Lib.hid (HBX.out _ _ R1.out hb2); obtain ⟨gd, cd, rfl, hg1, hg2⟩ := own_some8 hO (degL_length _ _) hn0; have HO := Lib.hid (hO.base B1.out.size); clear hb2 hO; obtain ⟨b0, b1, -, -⟩ := two_cells R2.out)
    | (go_at_call 12; refine (HGI.out _ B2.out).mono ?_; rintro e w3 ⟨rfl, hb3⟩; have HO3 := Lib.hid (HO.out.below hb3); have B3 := Lib.hid (B2.out.trans (hb3.mono B2.out.size)); clear hb3; rcases hC4 with rfl | rfl)
    | (go_at_call 44; refine (HM.out _ _ _ HO3.out).mono ?_; rintro e w' ⟨rfl, rfl⟩; by_cases hMk : M ≤ k <;> by_cases hGc : c ≤ G))
  all_goals go_ret2
  all_goals exact ⟨by simp [hMk, hGc], B3.out⟩

def FbG (n : Int) (zs : List Int) (k c : Int) : Bool := if isG n zs then if kcB k c then FbB zs k c else false else false
def FbC (n : Int) (zs : List Int) (k c : Int) : Int := if isG n zs then if kcB k c then 0 else 2 else 1

set_option maxHeartbeats 800000 in
theorem implFb_any (n : Int) (v : Value) (zs : List Int) (k c : Int) (w : World) (h : Sl w v zs) (hl : zs.length ≤ 9223372036854775807) (hT : Tab w) :
    Calls Tryd.prog 17 #[.agg #[.int .i64 n, v], .int .i64 k, .int .i64 c] w fun e w' => e = .returned (.tuple #[.bool (FbG n zs k c), .int .i64 (FbC n zs k c)]) ∧ Below w.heap.size w w' := by
  have D0 : Below w.heap.size w (w.alloc (.cells #[.int .i64 n, v] 28)) := (Below.refl _ _).alloc (Nat.le_refl _) _
  have his := implIs_any n v zs _ (h.below D0) hl (hT.belowAll D0)
  have hdg := fun W => areDG_any k c W
  unfold FbG FbC
  cases hg : isG n zs with
  | false =>
    rw [hg] at his
    clear h hg hT hdg
    go_enter Tryd.func17, Tryd.ntmps17
    go_wp2_with (go_at_call 32; refine his.mono ?_; rintro e w1 ⟨rfl, hb1⟩)
    go_ret2
    exact ⟨rfl, D0.trans (hb1.mono (by simp))⟩
  | true =>
    cases hkc : kcB k c with
    | false =>
      rw [hg] at his
      rw [hkc] at hdg
      clear h hg hT hkc
      go_enter Tryd.func17, Tryd.ntmps17
      go_wp2_with (first
        | (go_at_call 32; refine his.mono ?_; rintro e w1 ⟨rfl, hb1⟩)
        | (go_at_call 42; refine (hdg _).mono ?_; rintro e w' ⟨rfl, rfl⟩))
      go_ret2
      exact ⟨rfl, D0.trans (hb1.mono (by simp))⟩
    | true =>
      obtain ⟨h1, _, h3, _⟩ := isG_parts hg
      obtain ⟨b, off, cap, rfl, hb, hc⟩ := sl_some h (by omega)
      obtain rfl : (zs.length : Int) = n := h3
      exact implFb_yes b off cap zs k c w hb hc hg hkc hT
end Go.Proofs.YtehpafbhejcbmaaDoor
