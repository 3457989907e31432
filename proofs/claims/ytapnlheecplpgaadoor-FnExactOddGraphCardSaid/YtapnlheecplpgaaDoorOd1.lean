/-
  Odd graphs: spec.l04Sets, by induction on how many numbers a set has.
-/
import Derived.Test.YtapnlheecplpgaaDoorOd0
namespace Go.Proofs.YtapnlheecplpgaaDoor
set_option maxRecDepth 100000
open Go.RowKit

/-- A list of rows comes back, its own. -/
def SRet (B : Nat) (L : List Nat) (e : Ending) (w' : World) : Prop := ∃ u, e = .returned u ∧ Own w' B u (nIO L)
theorem el_nIO (L : List Nat) (j : Nat) (h : j < L.length) : el (nIO L) j = ((L[j] : Nat) : Int) := by simp [el, nIO, h]
theorem nIO_append (L M : List Nat) : nIO (L ++ M) = nIO L ++ nIO M := by simp [nIO]
theorem stJ_length {c x r i j : Nat} (hr : r ≤ 7) : (stJ c x r i j).length ≤ 7 ^ c := by
  unfold stJ
  rw [List.length_map, List.length_take]
  exact Nat.le_trans (Nat.min_le_right _ _) (stL_length c _ _ (by omega))
theorem st_bd {c x r i j : Nat} (hr : r ≤ 7) (hi : i ≤ r) (hc : c ≤ 4) : (nIO (stI c x r i ++ stJ c x r i j)).length ≤ 20000 := by
  rw [nIO_length, List.length_append]
  have h1 := stI_length (c := c) (x := x) hr hi
  have h2 := stJ_length (c := c) (x := x) (i := i) (j := j) hr
  have h3 : 7 ^ (c + 1) ≤ 7 ^ 5 := Nat.pow_le_pow_right (by decide) (by omega)
  have h4 : 7 ^ c ≤ 7 ^ 4 := Nat.pow_le_pow_right (by decide) hc
  have h5 : 7 ^ 5 + 7 ^ 4 ≤ 20000 := by decide
  omega

set_option maxHeartbeats 800000 in
theorem sets_zero (x t : Int) (w : World) :
    Calls Tryd.prog 10 #[.int .i64 0, .int .i64 x, .int .i64 t] w fun e w' => SRet w.heap.size [0] e w' ∧ Below w.heap.size w w' := by
  go_enter Tryd.func10, Tryd.ntmps10
  go_wp2_with fail
  go_ret
  exact ⟨⟨_, rfl, Own.of_blk (Blk.new w [(0 : Int)]) (Nat.le_refl _) (by unfold maxLen; exact (by decide : (1 : Nat) ≤ 9223372036854775807))⟩, (Below.refl _ _).alloc (Nat.le_refl _) _⟩

set_option maxHeartbeats 3200000 in
theorem sets_succ (c x r : Nat) (C T : Int) (w : World) (hC : C = ((c + 1 : Nat) : Int)) (hT : T = (x : Int) + r - 1) (hc : c ≤ 4) (hr : r ≤ 7) (hx : x + r ≤ 61)
    (IH : ∀ (x' r' : Nat) (C' X' T' : Int) (w' : World), C' = (c : Int) → X' = (x' : Int) → T' = (x' : Int) + r' - 1 → r' ≤ 7 → x' + r' ≤ 61 →
      Calls Tryd.prog 10 #[.int .i64 C', .int .i64 X', .int .i64 T'] w' fun e w'' => SRet w'.heap.size (stL c x' r') e w'' ∧ Below w'.heap.size w' w'') :
    Calls Tryd.prog 10 #[.int .i64 C, .int .i64 x, .int .i64 T] w fun e w' => SRet w.heap.size (stL (c + 1) x r) e w' ∧ Below w.heap.size w w' := by
  obtain ⟨i0, hi, hz0, hz1, hz2⟩ := info_parts mk_info
  have HI := Lib.hid hi; have HI0 := Lib.hid hz0; have HI1 := Lib.hid hz1; have HI2 := Lib.hid hz2
  have hC0 : ¬ C = 0 := by omega
  have kC : IntKind.i64.wrap (C - 1) = (c : Int) := by rw [show C - 1 = (c : Int) by omega]; exact IntWalk.i64_in _ ⟨by omega, by omega⟩
  have HIH := Lib.hid IH
  have hnil : Hid (Own (w.alloc (.cells #[] 2)) w.heap.size (.slice (some ⟨w.heap.size, 0, none⟩) 0 0) (nIO (stI c x r 0))) :=
    World.ownsRow_made w #[] 0 (base := w.heap.size) (e := 2) (size := 1) (Nat.le_refl _) (by decide) rfl
  have E0 : Below w.heap.size w (w.alloc (.cells #[] 2)) := (Below.refl _ _).alloc (Nat.le_refl _) _
  have HT := Lib.hid hT
  clear IH hi hz0 hz1 hz2 hC hT
  go_enter Tryd.func10, Tryd.ntmps10
  go_wp2_with fail
  go_loopw [7, 8] (fun u yv wr => ∃ k y : Nat, k ≤ r ∧ Hid (y = x + k) ∧ yv = .int .i64 y ∧ Hid (Own wr w.heap.size u (nIO (stI c x r k))) ∧ Below w.heap.size w wr) (fun _ yv _ => x + r - (intOf yv).toNat)
  case atStart => exact ⟨0, x, Nat.zero_le _, rfl, rfl, hnil, E0⟩
  case round =>
    clear hnil E0
    obtain ⟨k, y, hk, HY, rfl, HO, hB⟩ := hrel
    have hT := HT.out
    have hy := HY.out
    by_cases hlt : (y : Int) ≤ T
    · have hkr : k < r := by omega
      have k1 : IntKind.i64.wrap ((y : Int) + 1) = (y : Int) + 1 := IntWalk.i64_in _ ⟨by omega, by omega⟩
      have hih := Lib.hid (HIH.out (x + k + 1) (r - k - 1) (c : Int) ((y : Int) + 1) T wr rfl (by omega) (by omega) (by omega) (by omega))
      have s1 := hB.size
      have y61 : y ≤ 61 := by omega
      clear hT hy
      go_wp2_with fail
      refine hih.out.mono ?_
      rintro e w1 ⟨⟨v, rfl, hV⟩, hb1⟩
      clear hih
      have s2 := hb1.size
      obtain ⟨n, hn⟩ : ∃ n, n = (stL c (x + k + 1) (r - k - 1)).length := ⟨_, rfl⟩
      obtain ⟨p, cp, rfl⟩ : ∃ p cp, v = .slice p n cp := ⟨_, _, by have := slForm hV.sl; rw [nIO_length, ← hn] at this; exact this⟩
      have hne0 : Hid ((Value.slice p n cp).ownBlock = none ∨ (Value.slice p n cp).ownBlock ≠ u7.ownBlock) := by
        show _ ∨ _
        rcases hq : (Value.slice p n cp).ownBlock with _ | b
        · exact .inl rfl
        · refine .inr fun e => ?_
          have h1 := hV.ge b hq
          have h2 := HO.out.lt b e.symm
          omega
      have hO1 : Hid (Own w1 w.heap.size u7 (nIO (stI c x r k ++ stJ c x r k 0))) := by
        show Own _ _ _ _
        rw [stJ_zero, List.append_nil]
        exact HO.out.below hb1
      have hV1 : Hid (Own w1 w.heap.size (.slice p n cp) (nIO (stL c (x + k + 1) (r - k - 1)))) := hV.base s1
      have hB1 := hB.trans (hb1.mono s1)
      have hnb : n ≤ 20000 := by
        have h1 := stL_length c (x + k + 1) (r - k - 1) (by omega)
        have h4 : 7 ^ c ≤ 7 ^ 4 := Nat.pow_le_pow_right (by decide) hc
        have h5 : 7 ^ 4 ≤ 20000 := by decide
        omega
      have HN := Lib.hid hn
      clear HO hB hV hb1 s1 s2 hn
      go_wp2_with fail
      go_loopw [7, 10] (fun u jv wr => ∃ j : Nat, j ≤ n ∧ jv = .int .i64 j ∧ Hid (Own wr w.heap.size u (nIO (stI c x r k ++ stJ c x r k j))) ∧ Hid (Own wr w.heap.size (.slice p n cp) (nIO (stL c (x + k + 1) (r - k - 1)))) ∧ Hid ((Value.slice p n cp).ownBlock = none ∨ (Value.slice p n cp).ownBlock ≠ u.ownBlock) ∧ Below w.heap.size w wr) (fun _ jv _ => n - (intOf jv).toNat)
      case atStart => exact ⟨0, Nat.zero_le _, rfl, hO1, hV1, hne0, hB1⟩
      case round =>
        clear hO1 hV1 hne0 hB1
        obtain ⟨j, hj, rfl, HO, HV, HD, hB⟩ := hrel
        have s1 := hB.size
        by_cases hjl : (j : Int) < n
        · have hjn : j < n := by omega
          have hjs : j < (stL c (x + k + 1) (r - k - 1)).length := by rw [← HN.out]; exact hjn
          obtain ⟨z, hz⟩ : ∃ z : Nat, z = (stL c (x + k + 1) (r - k - 1))[j] := ⟨_, rfl⟩
          have hzl : z < 2 ^ 61 := by
            have h1 := stL_lt c (x + k + 1) (r - k - 1) z (by rw [hz]; exact List.getElem_mem _)
            exact Nat.lt_of_lt_of_le h1 (Nat.pow_le_pow_right (by decide) (by omega))
          obtain ⟨g, hpg, hcell⟩ : ∃ g, p = some ⟨g, 0, none⟩ ∧ wr.cell? ⟨g, j, none⟩ = some (.int .i64 z) := by
            rcases HV.out.form with ⟨_, h0⟩ | ⟨g, cap, e, _⟩
            · have := congrArg List.length h0
              rw [nIO_length, List.length_nil] at this
              omega
            · refine ⟨g, by injection e, ?_⟩
              rcases HV.out.sl with ⟨_, _, _, h0⟩ | ⟨b, off, cap', e', _, hcc⟩
              · have := congrArg List.length h0
                rw [nIO_length, List.length_nil] at this
                omega
              · rw [e] at e'
                injection e' with e1 e2 e3
                injection e1 with e1
                injection e1 with e1 e4 e5
                subst e1; subst e4
                have := hcc j (by rw [nIO_length]; exact hjs)
                rw [el_nIO _ _ hjs, ← hz, Nat.zero_add] at this
                exact this
          subst hpg
          obtain ⟨q, hq⟩ : ∃ q : Nat, q = 2 ^ y ||| z := ⟨_, rfl⟩
          have P1 : bits .or .i64 ((2 : Int) ^ y) (z : Int) = (q : Int) := by
            have hp : 2 ^ y < 2 ^ 63 := Nat.pow_lt_pow_right (by decide) (by omega)
            rw [show ((2 : Int) ^ y) = ((2 ^ y : Nat) : Int) by simp, or_i64 _ _ hp (by omega), hq]
          have qy := pow_bounds y (by omega)
          have hy0 : (0 : Int) ≤ y := by omega
          have hy1 : (y : Int) ≤ 64 := by omega
          have hj0 : (0 : Int) ≤ j := by omega
          have hLN : Hid (nIO (stI c x r k ++ stJ c x r k (j + 1)) = nIO (stI c x r k ++ stJ c x r k j) ++ [(q : Int)]) := by
            show _ = _
            rw [stJ_succ hjs, ← List.append_assoc, nIO_append (_ ++ _), ← hz, hq, HY.out]
            rfl
          have hbd := st_bd (c := c) (x := x) (i := k) (j := j) hr (by omega) hc
          obtain ⟨L, hL⟩ : ∃ L, L = nIO (stI c x r k ++ stJ c x r k j) := ⟨_, rfl⟩
          rw [← hL] at hLN HO hbd
          clear hL hz hq
          have ho := HO.out
          unfold Own at ho
          have HO2 := Lib.hid ho
          clear ho
          go_wp2_with (at_builtin; refine wpList_append_own_at _ rfl _ _ 22 rfl w.heap.size 2 i0 (.int .i64 0) 1 8 Tryd.underlying22 HI.out HI0.out HI1.out HI2.out rfl (by decide) _ _ _ rfl (World.ownsRow.alloc HO2.out _) ⟨wr.heap.size, 0, none⟩ 1 1 [.int .i64 (q : Int)] rfl rfl (cell_one_new _ _ _) (by simp [Value.oneCell']) (by unfold maxLen; omega) (by omega) (by simp; omega) ?_; intro u' w3 hown3 hgr3 _ hob3)
          have E3 := (hB.alloc s1 _).grown hgr3 (by simp; omega) (fun k e => (World.ownsRow.lt HO2.out k e).1)
          have HN3 : Hid (Own w3 w.heap.size u' (nIO (stI c x r k ++ stJ c x r k (j + 1)))) := by
            show World.ownsRow _ _ _ _ _ _ _
            rw [hLN.out, List.length_append, List.map_append]
            exact hown3
          have HV3 : Hid (Own w3 w.heap.size (.slice (some ⟨g, 0, none⟩) n cp) (nIO (stL c (x + k + 1) (r - k - 1)))) :=
            Own.kept (HV.out.below ((Below.refl _ _).alloc (Nat.le_refl _) _)) hgr3 HD.out
          have HD3 : Hid ((Value.slice (some ⟨g, 0, none⟩) n cp).ownBlock = none ∨ (Value.slice (some ⟨g, 0, none⟩) n cp).ownBlock ≠ u'.ownBlock) := by
            show _ ∨ _
            rcases hob3 with h | h
            · rw [h]; exact HD.out
            · rw [h]
              refine .inr fun e => ?_
              have := HV.out.lt _ e
              simp at this
              omega
          clear hown3 hgr3 hob3 HO2 HO HV HD hB hLN P1 hcell
          go_wp2_with fail
          go_roundw
          case rel => exact ⟨j + 1, by omega, by go_num, HN3, HV3, HD3, E3⟩
          case measure => simp [intOf]; omega
        · obtain rfl : j = n := by omega
          have HOQ : Hid (Own wr w.heap.size u7 (nIO (stI c x r (k + 1)))) := by
            show Own _ _ _ _
            rw [← stJ_all, ← HN.out]
            exact HO.out
          clear HO HV HD
          go_wp2_with fail
          go_roundw
          case rel => exact ⟨k + 1, by omega, y + 1, by show _ = _; rw [HY.out]; omega, by go_num, HOQ⟩
          case measure => have hy := HY.out; have hT := HT.out; simp [intOf]; omega
    · obtain rfl : k = r := by omega
      clear hT hy
      go_wp2_with fail
      go_ret
      exact ⟨⟨_, rfl, HO.out⟩, hB⟩

theorem sets_any : ∀ (c x r : Nat) (C X T : Int) (w : World), c ≤ 4 → C = (c : Int) → X = (x : Int) → T = (x : Int) + r - 1 → r ≤ 7 → x + r ≤ 61 →
    Calls Tryd.prog 10 #[.int .i64 C, .int .i64 X, .int .i64 T] w fun e w' => SRet w.heap.size (stL c x r) e w' ∧ Below w.heap.size w w' := by
  intro c
  induction c with
  | zero =>
    intro x r C X T w _ hC _ _ _ _
    subst hC
    exact sets_zero X T w
  | succ c IH =>
    intro x r C X T w hc hC hX hT hr hx
    subst hX
    exact sets_succ c x r C T w hC hT (by omega) hr hx fun x' r' C' X' T' w' h1 h2 h3 h4 h5 => IH x' r' C' X' T' w' (by omega) h1 h2 h3 h4 h5
end Go.Proofs.YtapnlheecplpgaaDoor
