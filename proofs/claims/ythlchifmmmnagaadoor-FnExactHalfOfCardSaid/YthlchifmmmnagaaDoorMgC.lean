/-
  Several texts in one: On1 On2 On3.
-/
import Derived.Test.YthlchifmmmnagaaDoorPe7
import Derived.BigRegion
namespace Go.Proofs.YthlchifmmmnagaaDoor
set_option maxRecDepth 100000
open Go.RowKit

/-- The digits 0 to k - 1 of the row i of the part on vs. -/
def onN (zs vs : List Int) (i : Nat) : Nat → Nat
  | 0 => 0
  | k + 1 => if bt (el zs (el vs i).toNat) (el vs k).toNat then onN zs vs i k ||| 2 ^ k else onN zs vs i k
theorem onN_yes {zs vs : List Int} {i k : Nat} (h : bt (el zs (el vs i).toNat) (el vs k).toNat = true) : onN zs vs i (k + 1) = onN zs vs i k ||| 2 ^ k := by rw [onN, if_pos h]
theorem onN_no {zs vs : List Int} {i k : Nat} (h : bt (el zs (el vs i).toNat) (el vs k).toNat = false) : onN zs vs i (k + 1) = onN zs vs i k := by rw [onN, if_neg (by simp [h])]
theorem onN_lt (zs vs : List Int) (i : Nat) : ∀ k, onN zs vs i k < 2 ^ k
  | 0 => by simp [onN]
  | k + 1 => by
    have ih := onN_lt zs vs i k
    have h1 : 2 ^ k < 2 ^ (k + 1) := Nat.pow_lt_pow_right (by decide) (by omega)
    rw [onN]
    split
    · exact Nat.or_lt_two_pow (by omega) h1
    · omega
/-- The row as a number. -/
def onR (zs vs : List Int) (i k : Nat) : Int := (onN zs vs i k : Int)
theorem onR_zero (zs vs : List Int) (i : Nat) : onR zs vs i 0 = 0 := rfl
theorem onR_yes {zs vs : List Int} {i k : Nat} (h : bt (el zs (el vs i).toNat) (el vs k).toNat = true) : onR zs vs i (k + 1) = por (onR zs vs i k) k := by
  unfold onR por; rw [onN_yes h, Int.toNat_natCast]
theorem onR_no {zs vs : List Int} {i k : Nat} (h : bt (el zs (el vs i).toNat) (el vs k).toNat = false) : onR zs vs i (k + 1) = onR zs vs i k := by
  unfold onR; rw [onN_no h]
theorem onR_bd (zs vs : List Int) (i k m : Nat) (h : k ≤ m) : 0 ≤ onR zs vs i k ∧ onR zs vs i k ≤ 2 ^ m - 1 := by
  have h1 := onN_lt zs vs i k
  have h2 : 2 ^ k ≤ 2 ^ m := Nat.pow_le_pow_right (by decide) h
  have e : ((2 : Int) ^ m) = ((2 ^ m : Nat) : Int) := by simp
  unfold onR
  rw [e]
  omega

/-- The rows of the part. -/
def onL (zs vs : List Int) : List Int := (List.range vs.length).map fun a => onR zs vs a vs.length
theorem onL_length (zs vs : List Int) : (onL zs vs).length = vs.length := by simp [onL]
theorem el_map_range (f : Nat → Int) (m a : Nat) (h : a < m) : el ((List.range m).map f) a = f a := by simp [el, h]
theorem ext_el {L M : List Int} (hl : L.length = M.length) (h : ∀ a, a < L.length → el L a = el M a) : L = M := by
  apply List.ext_getElem hl
  intro i h1 h2
  have := h i h1
  rw [el_lt h1, el_lt h2] at this
  exact this

/-- The rows while the program fills row i from left to right. -/
def onT (zs vs : List Int) (i j : Nat) : List Int := (List.range vs.length).map fun a => if a < i then onR zs vs a vs.length else if a = i then onR zs vs i j else 0
theorem onT_length (zs vs : List Int) (i j : Nat) : (onT zs vs i j).length = vs.length := by simp [onT]
theorem onT_zero (zs vs : List Int) : onT zs vs 0 0 = List.replicate vs.length 0 := by
  refine ext_el (by simp [onT]) fun a ha => ?_
  rw [onT_length] at ha
  rw [onT, el_map_range _ _ _ ha]
  have e : el (List.replicate vs.length (0 : Int)) a = 0 := by simp [el, ha]
  rw [e, if_neg (by omega)]
  split
  · exact onR_zero ..
  · rfl
theorem onT_next (zs vs : List Int) (i : Nat) : onT zs vs i vs.length = onT zs vs (i + 1) 0 := by
  refine ext_el (by simp [onT]) fun a ha => ?_
  rw [onT_length] at ha
  rw [onT, onT, el_map_range _ _ _ ha, el_map_range _ _ _ ha]
  by_cases h1 : a < i
  · rw [if_pos h1, if_pos (by omega)]
  · by_cases h2 : a = i
    · subst h2; rw [if_neg h1, if_pos rfl, if_pos (by omega)]
    · rw [if_neg h1, if_neg h2, if_neg (by omega)]
      split
      · rw [onR_zero]
      · rfl
theorem onT_all (zs vs : List Int) : onT zs vs vs.length 0 = onL zs vs := by
  refine ext_el (by simp [onT, onL]) fun a ha => ?_
  rw [onT_length] at ha
  rw [onT, onL, el_map_range _ _ _ ha, el_map_range _ _ _ ha, if_pos ha]
theorem onT_at (zs vs : List Int) (i j : Nat) (hi : i < vs.length) : el (onT zs vs i j) i = onR zs vs i j := by
  rw [onT, el_map_range _ _ _ hi, if_neg (by omega), if_pos rfl]
theorem onT_set (zs vs : List Int) (i j : Nat) (hi : i < vs.length) : (onT zs vs i j).set i (onR zs vs i (j + 1)) = onT zs vs i (j + 1) := by
  refine ext_el (by simp [onT]) fun a ha => ?_
  rw [List.length_set, onT_length] at ha
  by_cases e : a = i
  · subst e
    rw [el_set_same _ _ _ (by rw [onT_length]; exact ha), onT_at _ _ _ _ ha]
  · rw [el_set_ne _ _ _ _ (fun h => e h.symm), onT, onT, el_map_range _ _ _ ha, el_map_range _ _ _ ha, if_neg e, if_neg e]

/-- The rows while the model puts the edges of row i to the rows before it. -/
def onS (zs vs : List Int) (i k : Nat) : List Int := (List.range vs.length).map fun a => if a < k then onR zs vs a (i + 1) else if a < i then onR zs vs a i else if a = i then onR zs vs i k else 0
theorem onS_length (zs vs : List Int) (i k : Nat) : (onS zs vs i k).length = vs.length := by simp [onS]
theorem onS_zero (zs vs : List Int) : onS zs vs 0 0 = List.replicate vs.length 0 := by
  refine ext_el (by simp [onS]) fun a ha => ?_
  rw [onS_length] at ha
  rw [onS, el_map_range _ _ _ ha]
  have e : el (List.replicate vs.length (0 : Int)) a = 0 := by simp [el, ha]
  rw [e, if_neg (by omega), if_neg (by omega)]
  split
  · exact onR_zero ..
  · rfl
theorem onS_bd (zs vs : List Int) (i k a : Nat) (hk : k ≤ i) (hi : i < vs.length) (ha : a < vs.length) : 0 ≤ el (onS zs vs i k) a ∧ el (onS zs vs i k) a ≤ 2 ^ vs.length - 1 := by
  rw [onS, el_map_range _ _ _ ha]
  have hp := onR_bd zs vs a 0 vs.length (by omega)
  split
  · exact onR_bd zs vs a (i + 1) vs.length (by omega)
  · split
    · exact onR_bd zs vs a i vs.length (by omega)
    · split
      · exact onR_bd zs vs i k vs.length (by omega)
      · rw [onR_zero] at hp; exact hp
theorem onS_next {zs vs : List Int} {i : Nat} (hd : bt (el zs (el vs i).toNat) (el vs i).toNat = false) : onS zs vs i i = onS zs vs (i + 1) 0 := by
  refine ext_el (by simp [onS]) fun a ha => ?_
  rw [onS_length] at ha
  rw [onS, onS, el_map_range _ _ _ ha, el_map_range _ _ _ ha, if_neg (by omega : ¬ a < 0)]
  by_cases h1 : a < i
  · rw [if_pos h1, if_pos (by omega)]
  · rw [if_neg h1, if_neg h1]
    by_cases h2 : a = i
    · subst h2; rw [if_pos rfl, if_pos (by omega), onR_no hd]
    · rw [if_neg h2, if_neg (by omega)]
      split
      · rw [onR_zero]
      · rfl
theorem onS_all (zs vs : List Int) : onS zs vs vs.length 0 = onL zs vs := by
  refine ext_el (by simp [onS, onL]) fun a ha => ?_
  rw [onS_length] at ha
  rw [onS, onL, el_map_range _ _ _ ha, el_map_range _ _ _ ha, if_neg (by omega), if_pos ha]
theorem onS_no {zs vs : List Int} {i k : Nat} (hk : k < i) (h1 : bt (el zs (el vs i).toNat) (el vs k).toNat = false) (h2 : bt (el zs (el vs k).toNat) (el vs i).toNat = false) : onS zs vs i (k + 1) = onS zs vs i k := by
  refine ext_el (by simp [onS]) fun a ha => ?_
  rw [onS_length] at ha
  rw [onS, onS, el_map_range _ _ _ ha, el_map_range _ _ _ ha]
  by_cases a1 : a < k
  · rw [if_pos a1, if_pos (by omega)]
  · rw [if_neg a1]
    by_cases a2 : a = k
    · subst a2; rw [if_pos (by omega), if_pos hk, onR_no h2]
    · rw [if_neg (by omega)]
      by_cases a3 : a < i
      · rw [if_pos a3, if_pos a3]
      · rw [if_neg a3, if_neg a3, onR_no h1]
theorem onS_yes {zs vs : List Int} {i k : Nat} (hk : k < i) (hi : i < vs.length) (h1 : bt (el zs (el vs i).toNat) (el vs k).toNat = true) (h2 : bt (el zs (el vs k).toNat) (el vs i).toNat = true) : putL (onS zs vs i k) i k = onS zs vs i (k + 1) := by
  have ei : el (onS zs vs i k) i = onR zs vs i k := by rw [onS, el_map_range _ _ _ hi, if_neg (by omega), if_neg (by omega), if_pos rfl]
  have ek : el (onS zs vs i k) k = onR zs vs k i := by rw [onS, el_map_range _ _ _ (by omega), if_neg (by omega), if_pos hk]
  unfold putL
  rw [el_set_ne _ _ _ _ (show i ≠ k by omega), ei, ek, ← onR_yes h1, ← onR_yes h2]
  refine ext_el (by simp [onS]) fun a ha => ?_
  rw [List.length_set, List.length_set, onS_length] at ha
  by_cases a2 : a = k
  · subst a2
    rw [el_set_same _ _ _ (by rw [List.length_set, onS_length]; exact ha), onS, el_map_range _ _ _ ha, if_pos (by omega)]
  · rw [el_set_ne _ _ _ _ (fun h => a2 h.symm)]
    by_cases a3 : a = i
    · subst a3
      rw [el_set_same _ _ _ (by rw [onS_length]; exact ha), onS, el_map_range _ _ _ ha, if_neg (by omega), if_neg (by omega), if_pos rfl]
    · rw [el_set_ne _ _ _ _ (fun h => a3 h.symm), onS, onS, el_map_range _ _ _ ha, el_map_range _ _ _ ha]
      by_cases a1 : a < k
      · rw [if_pos a1, if_pos (by omega)]
      · have a5 : ¬ a < k + 1 := by omega
        rw [if_neg a1, if_neg a5, if_neg a3, if_neg a3]

/-- The least number that may stand at place k of an ascending list. -/
def ascB (vs : List Int) : Nat → Int
  | 0 => 0
  | k + 1 => el vs k + 1
/-- The first k numbers ascend and are vertices. -/
def ascTo (n : Int) (vs : List Int) (k : Nat) : Bool := (List.range k).all fun i => decide (ascB vs i ≤ el vs i) && decide (el vs i < n)
theorem ascTo_succ (n : Int) (vs : List Int) (k : Nat) : ascTo n vs (k + 1) = (ascTo n vs k && (decide (ascB vs k ≤ el vs k) && decide (el vs k < n))) := by
  unfold ascTo; rw [List.range_succ, List.all_append]; simp
theorem ascTo_at {n : Int} {vs : List Int} {k i : Nat} (h : ascTo n vs k = true) (hi : i < k) : ascB vs i ≤ el vs i ∧ el vs i < n := by
  unfold ascTo at h
  have := List.all_eq_true.1 h i (List.mem_range.2 hi)
  simpa using this
theorem ascTo_no {n : Int} {vs : List Int} {k m : Nat} (hk : k < m) (h : ¬ (ascB vs k ≤ el vs k ∧ el vs k < n)) : ascTo n vs m = false := by
  cases e : ascTo n vs m with
  | false => rfl
  | true => exact absurd (ascTo_at e hk) h
theorem ascTo_ge {n : Int} {vs : List Int} {k : Nat} (h : ascTo n vs k = true) : ∀ i, i < k → (i : Int) ≤ el vs i
  | 0, hi => (ascTo_at h hi).1
  | i + 1, hi => by
    have h1 := (ascTo_at h hi).1
    have h2 := ascTo_ge h i (by omega)
    rw [ascB] at h1
    omega
theorem ascTo_len {n : Int} {vs : List Int} (h : ascTo n vs vs.length = true) (h0 : 0 ≤ n) : (vs.length : Int) ≤ n := by
  by_cases e : vs.length = 0
  · omega
  · have h1 := ascTo_ge h (vs.length - 1) (by omega)
    have h2 := (ascTo_at h (show vs.length - 1 < vs.length by omega)).2
    omega

set_option maxHeartbeats 800000 in
theorem asc_some (n : Int) (b off cap : Nat) (vs : List Int) (w : World) (hc : Cells w b off vs) (hl : vs.length ≤ 9223372036854775807) (hn : n ≤ 62) :
    Calls Tryd.prog 51 #[.int .i64 n, .slice (some ⟨b, off, none⟩) vs.length cap] w fun e w' => e = .returned (.bool (ascTo n vs vs.length)) ∧ w = w' := by
  have HC := Lib.hid hc; clear hc
  go_enter Tryd.func51, Tryd.ntmps51
  go_wp2
  go_loop [5, 7, 10] (fun l _ i => ∃ k : Nat, k ≤ vs.length ∧ i = .int .i64 k ∧ l = .int .i64 (ascB vs k) ∧ Hid (ascTo n vs k = true)) (fun _ _ i => vs.length - (intOf i).toNat)
  case atStart => exact ⟨0, Nat.zero_le _, rfl, rfl, rfl⟩
  case round =>
    obtain ⟨k, hk, rfl, rfl, HA⟩ := hrel
    by_cases hlt : (k : Int) < vs.length
    · have hkl : k < vs.length := by omega
      have hz : w.cell? ⟨b, off + k, none⟩ = some (.int .i64 (el vs k)) := HC.out k hkl
      have hk0 : (0 : Int) ≤ k := by omega
      by_cases h1 : el vs k < ascB vs k
      · have HN := Lib.hid (ascTo_no (n := n) (vs := vs) hkl (fun h => absurd h.1 (by omega)))
        go_wp2
        go_ret
        exact ⟨ret_bool HN.out.symm, rfl⟩
      · have d1 : decide (el vs k < ascB vs k) = false := by simpa using h1
        by_cases h2 : el vs k < n
        · have HN : Hid (ascTo n vs (k + 1) = true) := by show _ = _; rw [ascTo_succ, HA.out]; simp; omega
          have hlo : 0 ≤ el vs k := by
            have := ascTo_ge HN.out k (by omega)
            omega
          have d2 : decide (n ≤ el vs k) = false := by simp; omega
          have HB : Hid (ascB vs (k + 1) = el vs k + 1) := rfl
          go_wp2
          go_round
          case rel => exact ⟨k + 1, by omega, by go_num, by rw [HB.out], HN⟩
          case measure => simp [intOf]; omega
        · have d2 : decide (n ≤ el vs k) = true := by simp; omega
          have HN := Lib.hid (ascTo_no (n := n) (vs := vs) hkl (fun h => absurd h.2 h2))
          go_wp2
          go_ret
          exact ⟨ret_bool HN.out.symm, rfl⟩
    · have hkl : k = vs.length := by omega
      subst hkl
      go_wp2
      go_ret
      exact ⟨ret_bool HA.out.symm, rfl⟩
end Go.Proofs.YthlchifmmmnagaaDoor
namespace Go.Proofs.YthlchifmmmnagaaDoor
set_option maxRecDepth 100000
open Go.RowKit

theorem or_zero_i64 (z : Int) (h0 : 0 ≤ z) (h1 : z ≤ 9223372036854775807) : bits .or .i64 z 0 = z := by
  obtain ⟨k, rfl⟩ := Int.eq_ofNat_of_zero_le h0
  have := or_i64 k 0 (by omega) (by decide)
  simpa using this

set_option maxRecDepth 100000 in
set_option maxHeartbeats 3200000 in
theorem implOn_yes (b off cap b2 off2 cap2 : Nat) (zs vs : List Int) (w : World) (hb : b < w.heap.size) (hc : Cells w b off zs) (hb2 : b2 < w.heap.size) (hc2 : Cells w b2 off2 vs) (hg : isG zs.length zs = true) (hT : Tab w) (ha : ascTo zs.length vs vs.length = true) (h0 : 0 < vs.length) :
    Calls Tryd.prog 32 #[.agg #[.int .i64 zs.length, .slice (some ⟨b, off, none⟩) zs.length cap], .slice (some ⟨b2, off2, none⟩) vs.length cap2] w fun e w' => GRes w.heap.size vs.length (onL zs vs) 0 e w' ∧ Below w.heap.size w w' := by
  obtain ⟨p1, p2, -, -⟩ := isG_parts hg
  have hm62 : vs.length ≤ 62 := by have := ascTo_len ha (by omega); omega
  have hz := isG_row_ok hg
  have hV : ∀ i, i < vs.length → ∃ p : Nat, el vs i = (p : Int) ∧ p < zs.length ∧ (el vs i).toNat = p := fun i hi => by
    have h1 := ascTo_ge ha i hi
    have h2 := (ascTo_at ha hi).2
    exact ⟨(el vs i).toNat, by omega, by omega, rfl⟩
  obtain ⟨W, hW⟩ : ∃ W, W = ((w.alloc (.cells #[.int .i64 zs.length, .slice (some ⟨b, off, none⟩) zs.length cap] 26)).alloc (.cells #[.int .i64 0, .slice none 0 0] 26)) := ⟨_, rfl⟩
  have D0 : Below w.heap.size w W := by rw [hW]; exact ((Below.refl _ _).alloc (Nat.le_refl _) _).alloc (by simp) _
  have hsz : W.heap.size = w.heap.size + 2 := by rw [hW]; simp
  have K2 : W.heap[w.heap.size]? = some (.cells #[.int .i64 zs.length, .slice (some ⟨b, off, none⟩) zs.length cap] 26 (0, 0)) := by rw [hW]; exact heap_old_at (heap_new_at w (.cells #[.int .i64 zs.length, .slice (some ⟨b, off, none⟩) zs.length cap] 26) w.heap.size rfl) _
  have K3 : W.heap[w.heap.size + 1]? = some (.cells #[.int .i64 0, .slice none 0 0] 26 (0, 0)) := by rw [hW]; exact heap_new_at (w.alloc (.cells #[.int .i64 zs.length, .slice (some ⟨b, off, none⟩) zs.length cap] 26)) (.cells #[.int .i64 0, .slice none 0 0] 26) (w.heap.size + 1) (by simp)
  have his := implIs_some zs.length b off cap zs W (by omega) (hc.below D0 hb) (by omega) (hT.belowAll D0)
  rw [hg] at his
  have C1 := Lib.hid (hc.below D0 hb)
  have C2 := Lib.hid (hc2.below D0 hb2)
  have hasc := fun (W1 : World) (h : Below W.heap.size W W1) => asc_some zs.length b2 off2 cap2 vs W1 (C2.out.below h (by omega)) (by omega) p2
  rw [ha] at hasc
  have HASC := Lib.hid hasc
  have hemp := fun W1 => implEmpty_any vs.length W1 (by omega)
  have HK2 := Lib.hid K2; have HK3 := Lib.hid K3; have hS : w.heap.size + 2 ≤ W.heap.size := by omega
  have HZ := Lib.hid hz; have HV := Lib.hid hV; have HG := Lib.hid hg
  have t0 : ((vs.length : Int) == 0) = false := by rw [beq_eq_false_iff_ne]; omega
  clear hasc K2 K3 hsz hc hc2 hg hT ha hz hV
  go_enter Tryd.func32, Tryd.ntmps32
  obtain ⟨a0, a1, -, -⟩ := two_cells HK2.out
  rw [hW] at a0 a1
  go_wp2_with fail
  rw [← hW]
  clear hW
  refine his.mono ?_
  rintro e w1 ⟨rfl, hb1⟩
  clear a0 a1 his
  have s1 := hb1.size
  obtain ⟨a0, a1, -, -⟩ := two_cells ((hb1.block w.heap.size (by omega)).trans HK2.out)
  go_wp2_with fail
  refine (HASC.out w1 hb1).mono ?_
  rintro e w1' ⟨rfl, rfl⟩
  go_wp2_with fail
  refine (hemp w1).mono ?_
  rintro e w2 ⟨rfl, hB2, hb2'⟩
  have l2 := hB2.lt
  have hbW2 : Below W.heap.size W w2 := hb1.trans (hb2'.mono s1)
  clear a0 a1 hemp hb1 hb2'
  have HB2 := Lib.hid hB2; clear hB2
  go_wp2_with fail
  obtain ⟨w3, h3⟩ : ∃ w3, w3 = w2.alloc (.cells #[.int .i64 vs.length, .slice (some ⟨w1.heap.size + 1, 0, none⟩) vs.length vs.length] 26) := ⟨_, rfl⟩
  have X3 : Hid (w3.heap[w2.heap.size]? = some (.cells #[.int .i64 vs.length, .slice (some ⟨w1.heap.size + 1, 0, none⟩) vs.length vs.length] 26 (0, 0))) := by rw [h3]; exact World.alloc_heap_new w2 _
  have B3 : Hid (Blk w3 (w1.heap.size + 1) (onT zs vs 0 0)) := by show Blk _ _ _; rw [onT_zero, h3]; exact HB2.out.alloc _
  have E3 : Below W.heap.size W w3 := by rw [h3]; exact hbW2.alloc hbW2.size _
  rw [← h3]
  clear h3 HB2
  have s3 : w2.heap.size < w3.heap.size := (Array.getElem?_eq_some_iff.1 X3.out).1
  have hgK : w1.heap.size + 1 ≠ w2.heap.size := by omega
  clear hbW2
  go_loopw [7, 8, 9, 10, 31] (fun _ _ _ _ t wr => ∃ i : Nat, i ≤ vs.length ∧ t = .int .i64 i ∧ Hid (Blk wr (w1.heap.size + 1) (onT zs vs i 0)) ∧ Hid (wr.heap[w2.heap.size]? = some (.cells #[.int .i64 vs.length, .slice (some ⟨w1.heap.size + 1, 0, none⟩) vs.length vs.length] 26 (0, 0))) ∧ Below W.heap.size W wr) (fun _ _ _ _ t _ => vs.length - (intOf t).toNat)
  case atStart => exact ⟨0, Nat.zero_le _, rfl, B3, X3, E3⟩
  case round =>
    obtain ⟨i, hi, rfl, HO, HX, hB⟩ := hrel
    by_cases hlt : (i : Int) < vs.length
    · have hil : i < vs.length := by omega
      obtain ⟨p, hp1, hp2, hp3⟩ := HV.out i hil
      have hz : wr.cell? ⟨b2, off2 + i, none⟩ = some (.int .i64 p) := by rw [← hp1]; exact (C2.out.below hB (by omega)) i hil
      have hi0 : (0 : Int) ≤ i := by omega
      have HP1 := Lib.hid hp1; have HP3 := Lib.hid hp3
      clear hp1 hp3
      go_wp2
      obtain ⟨wo, rfl⟩ : ∃ wo : World, wo = wr := ⟨_, rfl⟩
      go_loopw [9, 10, 38] (fun _ _ t wr => ∃ j : Nat, j ≤ vs.length ∧ t = .int .i64 j ∧ Hid (Blk wr (w1.heap.size + 1) (onT zs vs i j)) ∧ Hid (wr.heap[w2.heap.size]? = some (.cells #[.int .i64 vs.length, .slice (some ⟨w1.heap.size + 1, 0, none⟩) vs.length vs.length] 26 (0, 0))) ∧ Below W.heap.size W wr) (fun _ _ t _ => vs.length - (intOf t).toNat)
      case atStart => exact ⟨0, Nat.zero_le _, rfl, HO, HX, hB⟩
      case round =>
        clear hz HO HX hB
        obtain ⟨j, hj, rfl, HO, HX, hB⟩ := hrel
        by_cases hjt : (j : Int) < vs.length
        · have hjl : j < vs.length := by omega
          obtain ⟨q, hq1, hq2, hq3⟩ := HV.out j hjl
          have hz : wr.cell? ⟨b2, off2 + j, none⟩ = some (.int .i64 q) := by rw [← hq1]; exact (C2.out.below hB (by omega)) j hjl
          have hj0 : (0 : Int) ≤ j := by omega
          obtain ⟨x0, x1, -, -⟩ := two_cells HX.out
          obtain ⟨a0, a1, -, -⟩ := two_cells ((hB.block w.heap.size (by omega)).trans HK2.out)
          have hc : wr.cell? ⟨w1.heap.size + 1, i, none⟩ = some (.int .i64 (onR zs vs i j)) := by
            have := HO.out.cell (i := i) (by rw [onT_length]; exact hil)
            rw [onT_at zs vs i j hil] at this; exact this
          have hf : wr.frozen? ⟨w1.heap.size + 1, i, none⟩ = false := HO.out.frozen _
          have hzp : wr.cell? ⟨b, off + p, none⟩ = some (.int .i64 (el zs p)) := (C1.out.below hB (by omega)) p hp2
          have hp0 : (0 : Int) ≤ p := by omega
          have hpl : (p : Int) < zs.length := by omega
          have hq0 : (0 : Int) ≤ q := by omega
          obtain ⟨zp0, zp1⟩ := HZ.out p hp2
          have hsv := shr_val (el zs p) q zp0 zp1
          obtain ⟨r0, r1⟩ := onR_bd zs vs i j 62 (by omega)
          have pj := pow_bounds j (by omega)
          have r2 : onR zs vs i j ≤ 9223372036854775807 := by omega
          have W1 := Lib.hid (i64_pow (j : Int) (by omega))
          rw [Int.toNat_natCast] at W1
          have hbt : bt (el zs (el vs i).toNat) (el vs j).toNat = bt (el zs p) q := by rw [HP3.out, hq3]
          have HBT := Lib.hid hbt
          clear hbt hq1 hq3
          cases hbit : bt (el zs p) q with
          | true =>
            rw [hbit, if_pos rfl] at hsv
            have PN : Hid (bits .or .i64 (onR zs vs i j) (2 ^ j) = onR zs vs i (j + 1)) := by
              show _ = _
              rw [por_or _ _ r0 r2 (by omega), ← onR_yes (by rw [HBT.out]; exact hbit)]
            have HSET : Hid (Blk ((wr.setCell ⟨w1.heap.size + 1, i, none⟩ (.int .i64 (onR zs vs i (j + 1)))).drew) (w1.heap.size + 1) (onT zs vs i (j + 1))) := by
              have h := HO.out.set i (onR zs vs i (j + 1))
              rw [onT_set zs vs i j hil] at h
              exact h.belowAll ((Below.refl _ _).drew)
            have HX2 : Hid (((wr.setCell ⟨w1.heap.size + 1, i, none⟩ (.int .i64 (onR zs vs i (j + 1)))).drew).heap[w2.heap.size]? = some (.cells #[.int .i64 vs.length, .slice (some ⟨w1.heap.size + 1, 0, none⟩) vs.length vs.length] 26 (0, 0))) := (Below.heap_setCell wr ⟨w1.heap.size + 1, i, none⟩ _ w2.heap.size (by simp; omega)).trans HX.out
            have hBs := (hB.setCell (p := ⟨w1.heap.size + 1, i, none⟩) (by simp; omega) (.int .i64 (onR zs vs i (j + 1)))).drew
            have HBS := Lib.hid hBs
            clear hBs hB HO HX hbit
            go_wp2_with fail
            go_region
            rw [PN.out]
            obtain ⟨w5, h5⟩ : ∃ w5, w5 = (wr.setCell ⟨w1.heap.size + 1, i, none⟩ (.int .i64 (onR zs vs i (j + 1)))).drew := ⟨_, rfl⟩
            rw [← h5] at HSET HX2 HBS ⊢
            clear h5 x0 x1 a0 a1 hc hf hzp hsv
            go_wp2
            go_roundw
            case rel => exact ⟨j + 1, by omega, by go_num, HSET, HX2, HBS.out⟩
            case measure => simp [intOf]; omega
          | false =>
            rw [hbit, if_neg (by decide)] at hsv
            have PN : Hid (bits .or .i64 (onR zs vs i j) (0) = onR zs vs i (j + 1)) := by
              show _ = _
              rw [or_zero_i64 _ r0 r2, onR_no (by rw [HBT.out]; exact hbit)]
            have HSET : Hid (Blk ((wr.setCell ⟨w1.heap.size + 1, i, none⟩ (.int .i64 (onR zs vs i (j + 1)))).drew) (w1.heap.size + 1) (onT zs vs i (j + 1))) := by
              have h := HO.out.set i (onR zs vs i (j + 1))
              rw [onT_set zs vs i j hil] at h
              exact h.belowAll ((Below.refl _ _).drew)
            have HX2 : Hid (((wr.setCell ⟨w1.heap.size + 1, i, none⟩ (.int .i64 (onR zs vs i (j + 1)))).drew).heap[w2.heap.size]? = some (.cells #[.int .i64 vs.length, .slice (some ⟨w1.heap.size + 1, 0, none⟩) vs.length vs.length] 26 (0, 0))) := (Below.heap_setCell wr ⟨w1.heap.size + 1, i, none⟩ _ w2.heap.size (by simp; omega)).trans HX.out
            have hBs := (hB.setCell (p := ⟨w1.heap.size + 1, i, none⟩) (by simp; omega) (.int .i64 (onR zs vs i (j + 1)))).drew
            have HBS := Lib.hid hBs
            clear hBs hB HO HX hbit
            go_wp2_with fail
            go_region
            rw [PN.out]
            obtain ⟨w5, h5⟩ : ∃ w5, w5 = (wr.setCell ⟨w1.heap.size + 1, i, none⟩ (.int .i64 (onR zs vs i (j + 1)))).drew := ⟨_, rfl⟩
            rw [← h5] at HSET HX2 HBS ⊢
            clear h5 x0 x1 a0 a1 hc hf hzp hsv
            go_wp2
            go_roundw
            case rel => exact ⟨j + 1, by omega, by go_num, HSET, HX2, HBS.out⟩
            case measure => simp [intOf]; omega
        · have hjl : j = vs.length := by omega
          have HO2 : Hid (Blk wr (w1.heap.size + 1) (onT zs vs (i + 1) 0)) := by show Blk _ _ _; rw [← onT_next, ← hjl]; exact HO.out
          subst hjl
          clear HO
          go_wp2
          go_roundw
          case rel => exact ⟨i + 1, by omega, by go_num, HO2, HX, hB⟩
          case measure => simp [intOf]; omega
    · have hil : i = vs.length := by omega
      have RB := Lib.hid ((hB.block (w.heap.size + 1) (by omega)).trans HK3.out)
      obtain ⟨r0, r1, g0, g1⟩ := two_cells RB.out
      obtain ⟨x0, x1, -, -⟩ := two_cells HX.out
      have HF : Hid (Own wr W.heap.size (.slice (some ⟨w1.heap.size + 1, 0, none⟩) vs.length vs.length) (onL zs vs)) := by
        have h := HO.out
        rw [hil, onT_all] at h
        have h2 := Own.of_blk h (B := W.heap.size) (by omega) (by rw [onL_length]; unfold maxLen; omega)
        rw [onL_length] at h2
        exact h2
      have HDF := Lib.hid (D0.trans (hB.mono D0.size))
      subst hil
      clear HO hB
      go_wp2
      have hfin := two_set (a := .int .i64 vs.length) (b := .slice (some ⟨w1.heap.size + 1, 0, none⟩) vs.length vs.length) RB.out
      have hgr : wr.grownBy ((wr.setCell ⟨w.heap.size + 1, 0, none⟩ (.int .i64 vs.length)).setCell ⟨w.heap.size + 1, 1, none⟩ (.slice (some ⟨w1.heap.size + 1, 0, none⟩) vs.length vs.length)) (some (w.heap.size + 1)) := grown_set (grown_set ⟨rfl, rfl, rfl, Nat.le_refl _, fun _ _ _ => rfl⟩ _ 0 _) _ 1 _
      refine bodyPost_ret (v := .tuple #[.agg #[.int .i64 vs.length, .slice (some ⟨w1.heap.size + 1, 0, none⟩) vs.length vs.length], .int .i64 0]) (results_cell2 (p := 4) (u := 5) (ty := 26) rfl _ _ (w.heap.size + 1) 26 _ (0, 0) _ rfl hfin Tryd.underlying26 rfl (by exact info27)) rfl ⟨⟨_, rfl, ?_⟩, ?_⟩
      · exact (HF.out.kept hgr (.inr (by simp [Value.ownBlock]; omega))).base (by omega)
      · exact (HDF.out.setCell (p := ⟨w.heap.size + 1, 0, none⟩) (by simp) _).setCell (p := ⟨w.heap.size + 1, 1, none⟩) (by simp) _
end Go.Proofs.YthlchifmmmnagaaDoor
namespace Go.Proofs.YthlchifmmmnagaaDoor
set_option maxRecDepth 100000
open Go.RowKit

set_option maxHeartbeats 1600000 in
theorem implOn_no (n : Int) (v : Value) (u : Value) (zs : List Int) (w : World) (h : Sl w v zs) (hg : isG n zs = false) (hl : zs.length ≤ 9223372036854775807) (hT : Tab w) :
    Calls Tryd.prog 32 #[.agg #[.int .i64 n, v], u] w fun e w' => GRes w.heap.size 0 [] 1 e w' ∧ Below w.heap.size w w' := by
  obtain ⟨W, hW⟩ : ∃ W, W = ((w.alloc (.cells #[.int .i64 n, v] 26)).alloc (.cells #[.int .i64 0, .slice none 0 0] 26)) := ⟨_, rfl⟩
  have D0 : Below w.heap.size w W := by rw [hW]; exact ((Below.refl _ _).alloc (Nat.le_refl _) _).alloc (by simp) _
  have hsz : w.heap.size + 2 ≤ W.heap.size := by rw [hW]; simp
  have HK2 : Hid (W.heap[w.heap.size]? = some (.cells #[.int .i64 n, v] 26 (0, 0))) := by rw [hW]; exact heap_old_at (heap_new_at w (.cells #[.int .i64 n, v] 26) w.heap.size rfl) _
  have HK3 : Hid (W.heap[w.heap.size + 1]? = some (.cells #[.int .i64 0, .slice none 0 0] 26 (0, 0))) := by rw [hW]; exact heap_new_at (w.alloc (.cells #[.int .i64 n, v] 26)) (.cells #[.int .i64 0, .slice none 0 0] 26) (w.heap.size + 1) (by simp)
  have his := implIs_any n v zs W (h.below D0) hl (hT.belowAll D0)
  rw [hg] at his
  clear h hg hT
  go_enter Tryd.func32, Tryd.ntmps32
  obtain ⟨a0, a1, -, -⟩ := two_cells HK2.out
  rw [hW] at a0 a1
  go_wp2_with fail
  rw [← hW]
  clear hW
  refine his.mono ?_
  rintro e w1 ⟨rfl, hb1⟩
  have RB := Lib.hid ((hb1.block (w.heap.size + 1) (by omega)).trans HK3.out)
  obtain ⟨r0, r1, g0, g1⟩ := two_cells RB.out
  have D1 := D0.trans (hb1.mono D0.size)
  clear a0 a1 his hb1
  go_wp2
  have hfin := two_set (a := .int .i64 0) (b := .slice none 0 0) RB.out
  refine bodyPost_ret (v := .tuple #[.agg #[.int .i64 0, .slice none 0 0], .int .i64 1]) (results_cell2 (p := 4) (u := 5) (ty := 26) rfl _ _ (w.heap.size + 1) 26 _ (0, 0) _ rfl hfin Tryd.underlying26 rfl (by exact info27)) rfl ⟨⟨_, rfl, Own.nil _ _⟩, ?_⟩
  exact (D1.setCell (p := ⟨w.heap.size + 1, 0, none⟩) (by simp) _).setCell (p := ⟨w.heap.size + 1, 1, none⟩) (by simp) _

set_option maxHeartbeats 1600000 in
theorem implOn_empty (n : Int) (v : Value) (a : Option Addr) (c : Nat) (zs : List Int) (w : World) (h : Sl w v zs) (hg : isG n zs = true) (hl : zs.length ≤ 9223372036854775807) (hT : Tab w) :
    Calls Tryd.prog 32 #[.agg #[.int .i64 n, v], .slice a 0 c] w fun e w' => GRes w.heap.size 0 [] 2 e w' ∧ Below w.heap.size w w' := by
  obtain ⟨W, hW⟩ : ∃ W, W = ((w.alloc (.cells #[.int .i64 n, v] 26)).alloc (.cells #[.int .i64 0, .slice none 0 0] 26)) := ⟨_, rfl⟩
  have D0 : Below w.heap.size w W := by rw [hW]; exact ((Below.refl _ _).alloc (Nat.le_refl _) _).alloc (by simp) _
  have hsz : w.heap.size + 2 ≤ W.heap.size := by rw [hW]; simp
  have HK2 : Hid (W.heap[w.heap.size]? = some (.cells #[.int .i64 n, v] 26 (0, 0))) := by rw [hW]; exact heap_old_at (heap_new_at w (.cells #[.int .i64 n, v] 26) w.heap.size rfl) _
  have HK3 : Hid (W.heap[w.heap.size + 1]? = some (.cells #[.int .i64 0, .slice none 0 0] 26 (0, 0))) := by rw [hW]; exact heap_new_at (w.alloc (.cells #[.int .i64 n, v] 26)) (.cells #[.int .i64 0, .slice none 0 0] 26) (w.heap.size + 1) (by simp)
  have his := implIs_any n v zs W (h.below D0) hl (hT.belowAll D0)
  rw [hg] at his
  clear h hg hT
  go_enter Tryd.func32, Tryd.ntmps32
  obtain ⟨a0, a1, -, -⟩ := two_cells HK2.out
  rw [hW] at a0 a1
  go_wp2_with fail
  rw [← hW]
  clear hW
  refine his.mono ?_
  rintro e w1 ⟨rfl, hb1⟩
  have RB := Lib.hid ((hb1.block (w.heap.size + 1) (by omega)).trans HK3.out)
  obtain ⟨r0, r1, g0, g1⟩ := two_cells RB.out
  have D1 := D0.trans (hb1.mono D0.size)
  clear a0 a1 his hb1
  go_wp2
  have hfin := two_set (a := .int .i64 0) (b := .slice none 0 0) RB.out
  refine bodyPost_ret (v := .tuple #[.agg #[.int .i64 0, .slice none 0 0], .int .i64 2]) (results_cell2 (p := 4) (u := 5) (ty := 26) rfl _ _ (w.heap.size + 1) 26 _ (0, 0) _ rfl hfin Tryd.underlying26 rfl (by exact info27)) rfl ⟨⟨_, rfl, Own.nil _ _⟩, ?_⟩
  exact (D1.setCell (p := ⟨w.heap.size + 1, 0, none⟩) (by simp) _).setCell (p := ⟨w.heap.size + 1, 1, none⟩) (by simp) _

set_option maxHeartbeats 1600000 in
theorem implOn_bad (n : Int) (v : Value) (b2 off2 cap2 : Nat) (zs vs : List Int) (w : World) (h : Sl w v zs) (hb2 : b2 < w.heap.size) (hc2 : Cells w b2 off2 vs) (hg : isG n zs = true) (hl : zs.length ≤ 9223372036854775807) (hl2 : vs.length ≤ 9223372036854775807) (hT : Tab w) (h0 : 0 < vs.length) (ha : ascTo n vs vs.length = false) :
    Calls Tryd.prog 32 #[.agg #[.int .i64 n, v], .slice (some ⟨b2, off2, none⟩) vs.length cap2] w fun e w' => GRes w.heap.size 0 [] 2 e w' ∧ Below w.heap.size w w' := by
  obtain ⟨W, hW⟩ : ∃ W, W = ((w.alloc (.cells #[.int .i64 n, v] 26)).alloc (.cells #[.int .i64 0, .slice none 0 0] 26)) := ⟨_, rfl⟩
  have D0 : Below w.heap.size w W := by rw [hW]; exact ((Below.refl _ _).alloc (Nat.le_refl _) _).alloc (by simp) _
  have hsz : w.heap.size + 2 ≤ W.heap.size := by rw [hW]; simp
  have HK2 : Hid (W.heap[w.heap.size]? = some (.cells #[.int .i64 n, v] 26 (0, 0))) := by rw [hW]; exact heap_old_at (heap_new_at w (.cells #[.int .i64 n, v] 26) w.heap.size rfl) _
  have HK3 : Hid (W.heap[w.heap.size + 1]? = some (.cells #[.int .i64 0, .slice none 0 0] 26 (0, 0))) := by rw [hW]; exact heap_new_at (w.alloc (.cells #[.int .i64 n, v] 26)) (.cells #[.int .i64 0, .slice none 0 0] 26) (w.heap.size + 1) (by simp)
  have his := implIs_any n v zs W (h.below D0) hl (hT.belowAll D0)
  rw [hg] at his
  have C2 := hc2.below D0 hb2
  have hasc := fun (W1 : World) (h : Below W.heap.size W W1) => asc_some n b2 off2 cap2 vs W1 (C2.below h (by omega)) (by omega) (isG_parts hg).2.1
  rw [ha] at hasc
  have HASC := Lib.hid hasc
  have t0 : ((vs.length : Int) == 0) = false := by rw [beq_eq_false_iff_ne]; omega
  clear h hg hT hc2 C2 ha hasc
  go_enter Tryd.func32, Tryd.ntmps32
  obtain ⟨a0, a1, -, -⟩ := two_cells HK2.out
  rw [hW] at a0 a1
  go_wp2_with fail
  rw [← hW]
  clear hW
  refine his.mono ?_
  rintro e w1 ⟨rfl, hb1⟩
  clear a0 a1
  obtain ⟨a0, a1, -, -⟩ := two_cells ((hb1.block w.heap.size (by omega)).trans HK2.out)
  go_wp2_with fail
  refine (HASC.out w1 hb1).mono ?_
  rintro e w1' ⟨rfl, rfl⟩
  have RB := Lib.hid ((hb1.block (w.heap.size + 1) (by omega)).trans HK3.out)
  obtain ⟨r0, r1, g0, g1⟩ := two_cells RB.out
  have D1 := D0.trans (hb1.mono D0.size)
  clear a0 a1 his hb1
  go_wp2
  have hfin := two_set (a := .int .i64 0) (b := .slice none 0 0) RB.out
  refine bodyPost_ret (v := .tuple #[.agg #[.int .i64 0, .slice none 0 0], .int .i64 2]) (results_cell2 (p := 4) (u := 5) (ty := 26) rfl _ _ (w.heap.size + 1) 26 _ (0, 0) _ rfl hfin Tryd.underlying26 rfl (by exact info27)) rfl ⟨⟨_, rfl, Own.nil _ _⟩, ?_⟩
  exact (D1.setCell (p := ⟨w.heap.size + 1, 0, none⟩) (by simp) _).setCell (p := ⟨w.heap.size + 1, 1, none⟩) (by simp) _

/-- Is the list at least one vertex, ascending? -/
def onB (n : Int) (vs : List Int) : Bool := decide (0 < vs.length) && ascTo n vs vs.length
/-- Size, rows and code of the part of a graph on vertices. -/
def ONN (n : Int) (zs vs : List Int) : Int := if isG n zs && onB n vs then vs.length else 0
def ONL (n : Int) (zs vs : List Int) : List Int := if isG n zs && onB n vs then onL zs vs else []
def ONC (n : Int) (zs vs : List Int) : Int := if isG n zs then (if onB n vs then 0 else 2) else 1
theorem ON_yes {n : Int} {zs vs : List Int} (hg : isG n zs = true) (h : onB n vs = true) : ONN n zs vs = vs.length ∧ ONL n zs vs = onL zs vs ∧ ONC n zs vs = 0 := by simp [ONN, ONL, ONC, hg, h]
theorem ON_bad {n : Int} {zs vs : List Int} (hg : isG n zs = true) (h : onB n vs = false) : ONN n zs vs = 0 ∧ ONL n zs vs = [] ∧ ONC n zs vs = 2 := by simp [ONN, ONL, ONC, hg, h]
theorem ON_no {n : Int} {zs vs : List Int} (hg : isG n zs = false) : ONN n zs vs = 0 ∧ ONL n zs vs = [] ∧ ONC n zs vs = 1 := by simp [ONN, ONL, ONC, hg]
theorem ONL_length (n : Int) (zs vs : List Int) : (ONL n zs vs).length ≤ 62 := by
  unfold ONL
  split
  · rename_i h
    simp only [Bool.and_eq_true] at h
    obtain ⟨h1, h2, _, _⟩ := isG_parts h.1
    have h3 := h.2
    unfold onB at h3
    simp only [Bool.and_eq_true] at h3
    have := ascTo_len h3.2 (by omega)
    rw [onL_length]; omega
  · simp

theorem implOn_any (n : Int) (v u : Value) (zs vs : List Int) (w : World) (h : Sl w v zs) (h2 : Sl w u vs) (hl : zs.length ≤ 9223372036854775807) (hl2 : vs.length ≤ 9223372036854775807) (hT : Tab w) :
    Calls Tryd.prog 32 #[.agg #[.int .i64 n, v], u] w fun e w' => GRes w.heap.size (ONN n zs vs) (ONL n zs vs) (ONC n zs vs) e w' ∧ Below w.heap.size w w' := by
  cases hg : isG n zs
  · obtain ⟨e1, e2, e3⟩ := ON_no (vs := vs) hg
    rw [e1, e2, e3]
    exact implOn_no n v u zs w h hg hl hT
  · rcases h2 with ⟨a, c, rfl, rfl⟩ | ⟨b2, off2, cap2, rfl, hb2, hc2⟩
    · obtain ⟨e1, e2, e3⟩ := ON_bad (vs := []) hg (by simp [onB])
      rw [e1, e2, e3]
      exact implOn_empty n v a c zs w h hg hl hT
    · by_cases h0 : 0 < vs.length
      · cases ha : ascTo n vs vs.length
        · obtain ⟨e1, e2, e3⟩ := ON_bad (vs := vs) hg (by simp [onB, ha])
          rw [e1, e2, e3]
          exact implOn_bad n v b2 off2 cap2 zs vs w h hb2 hc2 hg hl hl2 hT h0 ha
        · obtain ⟨e1, e2, e3⟩ := ON_yes (vs := vs) hg (by simp [onB, ha, h0])
          rw [e1, e2, e3]
          obtain ⟨p1, _, p3, _⟩ := isG_parts hg
          obtain ⟨b, off, cap, rfl, hb, hc⟩ := sl_some h (by omega)
          subst p3
          exact implOn_yes b off cap b2 off2 cap2 zs vs w hb hc hb2 hc2 hg hT ha h0
      · obtain rfl : vs = [] := List.eq_nil_of_length_eq_zero (by omega)
        obtain ⟨e1, e2, e3⟩ := ON_bad (vs := []) hg (by simp [onB])
        rw [e1, e2, e3]
        exact implOn_empty n v _ _ zs w h hg hl hT
end Go.Proofs.YthlchifmmmnagaaDoor
