/-
  Renumberings: plain facts, impl.isRenumbering and spec.l01Order.
-/
import Derived.Test.YtabkfihhfkmioaaDoorDeg
import Derived.Test.YtabkfihhfkmioaaDoorNbI
import Derived.Test.YtabkfihhfkmioaaDoorBb9
namespace Go.Proofs.YtabkfihhfkmioaaDoor
set_option maxRecDepth 100000
open Go.RowKit

/-- The digits of the first k numbers of a list. -/
def msk (ps : List Int) : Nat → Nat
  | 0 => 0
  | k + 1 => msk ps k ||| 2 ^ (el ps k).toNat
/-- The first k numbers of a list are all different. -/
def ndT (ps : List Int) (k : Nat) : Bool := (List.range k).all fun i => !(msk ps i).testBit (el ps i).toNat
theorem ndT_zero (ps : List Int) : ndT ps 0 = true := rfl
theorem ndT_succ (ps : List Int) (k : Nat) : ndT ps (k + 1) = (ndT ps k && !(msk ps k).testBit (el ps k).toNat) := by simp [ndT, List.range_succ]
theorem ndT_no {ps : List Int} {k m : Nat} (hk : k < m) (h : (msk ps k).testBit (el ps k).toNat = true) : ndT ps m = false := by
  cases e : ndT ps m with
  | false => rfl
  | true =>
    unfold ndT at e
    rw [List.all_eq_true] at e
    have := e k (List.mem_range.2 hk)
    rw [h] at this; cases this
theorem vs_at {n : Int} {ps : List Int} {k i : Nat} (h : vsOk n ps k = true) (hi : i < k) : 0 ≤ el ps i ∧ el ps i ≤ n - 1 := by
  unfold vsOk at h
  rw [List.all_eq_true] at h
  have := h i (List.mem_range.2 hi)
  simpa using this
theorem vs_le {n : Int} {ps : List Int} {k m : Nat} (h : vsOk n ps m = true) (hk : k ≤ m) : vsOk n ps k = true := by
  unfold vsOk at *
  rw [List.all_eq_true] at *
  exact fun i hi => h i (List.mem_range.2 (by have := List.mem_range.1 hi; omega))
def renB (n : Int) (ps : List Int) : Bool := decide ((ps.length : Int) = n) && (vsOk n ps ps.length && ndT ps ps.length)
theorem msk_lt {n : Int} {ps : List Int} : ∀ k, vsOk n ps k = true → msk ps k < 2 ^ n.toNat
  | 0, _ => Nat.two_pow_pos _
  | k + 1, h => by
    have h1 := msk_lt k (vs_le h (by omega))
    have h2 := vs_at h (Nat.lt_succ_self k)
    rw [msk]
    exact Nat.or_lt_two_pow h1 (Nat.pow_lt_pow_right (by decide) (by omega))
theorem pcF_orR : ∀ (f x k : Nat), k < f → pcF f (x ||| 2 ^ k) = pcF f x + if x.testBit k then 0 else 1
  | 0, _, _, h => absurd h (by omega)
  | f + 1, x, 0, _ => by
    have d1 : (x ||| 2 ^ 0) / 2 = x / 2 := by have := @Nat.or_div_two_pow x 1 1; simpa using this
    have m1 : (x ||| 2 ^ 0) % 2 = (x % 2) ||| 1 := by have := @Nat.or_mod_two_pow x 1 1; simpa using this
    rw [pcF, pcF, d1, m1, Nat.testBit_zero]
    rcases Nat.mod_two_eq_zero_or_one x with h | h <;> rw [h] <;> simp <;> omega
  | f + 1, x, k + 1, h => by
    have e2 : 2 ^ (k + 1) / 2 = 2 ^ k := by rw [Nat.pow_succ]; omega
    have e3 : 2 ^ (k + 1) % 2 = 0 := by rw [Nat.pow_succ]; omega
    have d1 : (x ||| 2 ^ (k + 1)) / 2 = x / 2 ||| 2 ^ k := by
      have := @Nat.or_div_two_pow x (2 ^ (k + 1)) 1
      rw [Nat.pow_one, e2] at this
      exact this
    have m1 : (x ||| 2 ^ (k + 1)) % 2 = x % 2 := by
      have := @Nat.or_mod_two_pow x (2 ^ (k + 1)) 1
      rw [Nat.pow_one, e3, Nat.or_zero] at this
      exact this
    rw [pcF, pcF, d1, m1, pcF_orR f (x / 2) k (by omega), Nat.testBit_succ, Nat.add_assoc]
theorem msk_pc {n : Int} {ps : List Int} (hn : n ≤ 62) : ∀ k, vsOk n ps k = true → pc (msk ps k) ≤ k ∧ (pc (msk ps k) = k ↔ ndT ps k = true)
  | 0, _ => ⟨by rw [msk]; decide, by rw [msk, ndT_zero]; decide⟩
  | k + 1, h => by
    obtain ⟨h1, h2⟩ := msk_pc hn k (vs_le h (by omega))
    have h3 := vs_at h (Nat.lt_succ_self k)
    have h4 : pc (msk ps (k + 1)) = pc (msk ps k) + if (msk ps k).testBit (el ps k).toNat then 0 else 1 := pcF_orR 64 (msk ps k) (el ps k).toNat (by omega)
    rw [ndT_succ, h4]
    cases hb : (msk ps k).testBit (el ps k).toNat with
    | true =>
      rw [if_pos rfl]
      refine ⟨by omega, ⟨fun e => by omega, fun e => by simp at e⟩⟩
    | false =>
      rw [if_neg (by simp)]
      refine ⟨by omega, ?_⟩
      rw [show (ndT ps k && !false) = ndT ps k by simp]
      constructor
      · intro e; exact h2.1 (by omega)
      · intro e; have := h2.2 e; omega
theorem pcF_full : ∀ f x, x < 2 ^ f → (pcF f x = f ↔ x = 2 ^ f - 1)
  | 0, x, h => by
    have : x = 0 := by simpa using h
    subst this; simp [pcF]
  | f + 1, x, h => by
    have hp : 2 ^ (f + 1) = 2 * 2 ^ f := by rw [Nat.pow_succ]; omega
    have h0 := Nat.two_pow_pos f
    have ih := pcF_full f (x / 2) (by omega)
    have hle := pcF_le f (x / 2)
    rw [pcF, hp]
    constructor
    · intro e
      have := ih.1 (by omega)
      omega
    · intro e
      have := ih.2 (by omega)
      omega
theorem pc_full {x n : Nat} (hx : x < 2 ^ n) (hn : n ≤ 64) : pc x = n ↔ x = 2 ^ n - 1 := by
  have h := pcF_add n (64 - n) x
  rw [show n + (64 - n) = 64 by omega, Nat.div_eq_of_lt hx, pcF_zero, Nat.add_zero] at h
  unfold pc
  rw [h]
  exact pcF_full n x hx
theorem ren_eq {n : Int} {ps : List Int} (h2 : n ≤ 62) (hl : (ps.length : Int) = n) (hv : vsOk n ps ps.length = true) : (((msk ps ps.length : Nat) : Int) == 2 ^ n.toNat - 1) = ndT ps ps.length := by
  have h1 := msk_lt ps.length hv
  have h3 := (msk_pc h2 ps.length hv).2
  have h4 := pc_full h1 (by omega)
  rw [show n.toNat = ps.length by omega] at h4 h1 ⊢
  have h0 := Nat.two_pow_pos ps.length
  have e : ((2 : Int) ^ ps.length) = ((2 ^ ps.length : Nat) : Int) := by simp
  rw [Bool.eq_iff_iff, beq_iff_eq, ← h3, h4, e]
  omega
theorem or_pow9 {x b : Nat} (hx : x < 2 ^ 62) (hb : b < 62) : bits .or .i64 (x : Int) (2 ^ b) = ((x ||| 2 ^ b : Nat) : Int) := by
  have hp : 2 ^ b < 2 ^ 62 := Nat.pow_lt_pow_right (by decide) hb
  rw [show ((2 : Int) ^ b) = ((2 ^ b : Nat) : Int) by simp]
  exact or_i64 _ _ (by omega) (by omega)

set_option maxHeartbeats 1600000 in
theorem isRen_some (n : Int) (b off cap : Nat) (ps : List Int) (w : World) (hc : Cells w b off ps) (hl : ps.length ≤ 9223372036854775806) (h1 : 1 ≤ n) (h2 : n ≤ 62) :
    Calls Tryd.prog 81 #[.int .i64 n, .slice (some ⟨b, off, none⟩) ps.length cap] w fun e w' => e = .returned (.bool (renB n ps)) ∧ w = w' := by
  by_cases hln : (ps.length : Int) = n
  · have hne : ((ps.length : Int) != n) = false := by simp [hln]
    have hav : ∀ W, Calls Tryd.prog 55 #[.int .i64 n] W fun e w' => e = .returned (.int .i64 (2 ^ n.toNat - 1)) ∧ W = w' := fun W => allV_any n W (by omega) h2
    have HRB : Hid (renB n ps = (vsOk n ps ps.length && ndT ps ps.length)) := by show _ = _; unfold renB; rw [decide_eq_true hln]; rfl
    have HC := Lib.hid hc
    have HLN := Lib.hid hln
    clear hc hln
    go_enter Tryd.func81, Tryd.ntmps81
    go_wp2
    go_loop [5, 7, 14] (fun m _ i => ∃ k : Nat, k ≤ ps.length ∧ i = .int .i64 k ∧ m = .int .i64 (msk ps k : Nat) ∧ Hid (vsOk n ps k = true)) (fun _ _ i => ps.length - (intOf i).toNat)
    case atStart => exact ⟨0, Nat.zero_le _, rfl, rfl, vsOk_zero n ps⟩
    case round =>
      obtain ⟨k, hk, rfl, rfl, HO⟩ := hrel
      by_cases hlt : (k : Int) < ps.length
      · have hkl : k < ps.length := by omega
        have hz : w.cell? ⟨b, off + k, none⟩ = some (.int .i64 (el ps k)) := HC.out k hkl
        have hk0 : (0 : Int) ≤ k := by omega
        by_cases hin : 0 ≤ el ps k ∧ el ps k ≤ n - 1
        · have HN : Hid (vsOk n ps (k + 1) = true) := by show _ = _; rw [vsOk_succ, HO.out]; simp [hin]
          have hcall : ∀ W, Calls Tryd.prog 101 #[.int .i64 n, .int .i64 (el ps k)] W fun e w' => e = .returned (.bool true) ∧ W = w' := fun W => by
            have := isVertex_any n (el ps k) W
            rw [← Bool.decide_and, decide_eq_true hin] at this
            exact this
          have hm1 : msk ps k < 2 ^ 62 := Nat.lt_of_lt_of_le (msk_lt k HO.out) (Nat.pow_le_pow_right (by decide) (by omega))
          have HMS : Hid (((msk ps (k + 1) : Nat) : Int) = ((msk ps k ||| 2 ^ (el ps k).toNat : Nat) : Int)) := rfl
          obtain ⟨p, hp⟩ := Int.eq_ofNat_of_zero_le hin.1
          rw [hp] at hz hcall HMS
          rw [Int.toNat_natCast] at HMS
          have hw := i64_pow (p : Int) (by omega)
          rw [Int.toNat_natCast] at hw
          have hor := or_pow9 (b := p) hm1 (by omega)
          have hp0 : (0 : Int) ≤ p := by omega
          have hp1 : (p : Int) ≤ 62 := by omega
          obtain ⟨M, hM⟩ : ∃ M, M = msk ps k := ⟨_, rfl⟩
          rw [← hM] at hor HMS ⊢
          clear hin HO hp hm1 hM
          go_wp2_with (go_at_call 101; refine (hcall _).mono ?_; rintro e w2 ⟨rfl, rfl⟩)
          go_round
          case rel => exact ⟨k + 1, by omega, by go_num, by rw [HMS.out], HN⟩
          case measure => simp [intOf]; omega
        · have HN : Hid (renB n ps = false) := by
            show _ = _
            rw [HRB.out]
            cases e : vsOk n ps ps.length with
            | false => rfl
            | true => exact absurd (vs_at e hkl) hin
          have hcall : ∀ W, Calls Tryd.prog 101 #[.int .i64 n, .int .i64 (el ps k)] W fun e w' => e = .returned (.bool false) ∧ W = w' := fun W => by
            have := isVertex_any n (el ps k) W
            rw [← Bool.decide_and, decide_eq_false hin] at this
            exact this
          clear hin HO HRB
          go_wp2_with (go_at_call 101; refine (hcall _).mono ?_; rintro e w2 ⟨rfl, rfl⟩)
          go_ret
          exact ⟨ret_bool HN.out.symm, rfl⟩
      · have hkl : k = ps.length := by omega
        subst hkl
        have HEQ : Hid ((((msk ps ps.length : Nat) : Int) == 2 ^ n.toNat - 1) = renB n ps) := by show _ = _; rw [HRB.out, HO.out, ren_eq h2 HLN.out HO.out]; rfl
        clear HRB HO
        go_wp2_with (go_at_call 55; refine (hav _).mono ?_; rintro e w2 ⟨rfl, rfl⟩)
        go_ret
        exact ⟨ret_bool HEQ.out, rfl⟩
  · have hne : ((ps.length : Int) != n) = true := by simpa using hln
    have hR : renB n ps = false := by unfold renB; rw [decide_eq_false hln]; rfl
    rw [hR]
    clear hR hln hc
    go_enter Tryd.func81, Tryd.ntmps81
    go_wp2
    go_ret
    exact ⟨rfl, rfl⟩

set_option maxHeartbeats 800000 in
theorem isRen_any (n : Int) (v : Value) (ps : List Int) (w : World) (h : Sl w v ps) (hl : ps.length ≤ 9223372036854775806) (h1 : 1 ≤ n) (h2 : n ≤ 62) :
    Calls Tryd.prog 81 #[.int .i64 n, v] w fun e w' => e = .returned (.bool (renB n ps)) ∧ w = w' := by
  rcases h with ⟨a, c, rfl, rfl⟩ | ⟨b, off, cap, rfl, hb, hc⟩
  · have hR : renB n [] = false := by unfold renB; rw [decide_eq_false (by simp; omega)]; rfl
    have hne : ((0 : Int) != n) = true := by rw [bne_iff_ne]; omega
    rw [hR]
    go_enter Tryd.func81, Tryd.ntmps81
    go_wp2
    go_ret
    exact ⟨rfl, rfl⟩
  · exact isRen_some n b off cap ps w hc hl h1 h2

set_option maxHeartbeats 3200000 in
theorem order_some (n : Nat) (b off cap : Nat) (ps : List Int) (w : World) (hb : b < w.heap.size) (hc : Cells w b off ps) (hl : ps.length ≤ 1048576) (h1 : 1 ≤ n) (h2 : n ≤ 62) :
    Calls Tryd.prog 79 #[.slice (some ⟨b, off, none⟩) ps.length cap, .int .i64 n] w fun e w' => e = .returned (.bool (renB n ps)) ∧ Below w.heap.size w w' := by
  have hmk := run_mkBools n (by omega)
  have HB0 : Hid (BBlk (w.alloc (.cells (boolsA (List.replicate n false)) 4)) w.heap.size (boolsF n fun j => (msk ps 0).testBit j)) := by
    show BBlk _ _ _
    rw [show (fun j => (msk ps 0).testBit j) = fun _ => false by funext j; rw [msk]; exact Nat.zero_testBit j, boolsF_none]
    exact BBlk.new w _
  have HC := Lib.hid hc
  have hw1 : IntKind.i64.wrap ((n : Int) - 1) = (n : Int) - 1 := IntWalk.i64_in _ ⟨by omega, by omega⟩
  clear hc
  go_enter Tryd.func79, Tryd.ntmps79
  go_wp2_with fail
  go_loopw [6] (fun i wr => ∃ k : Nat, k ≤ ps.length ∧ i = .int .i64 k ∧ Hid (vsOk n ps k = true) ∧ Hid (ndT ps k = true) ∧ Hid (BBlk wr w.heap.size (boolsF n fun j => (msk ps k).testBit j)) ∧ Below w.heap.size w wr) (fun i _ => ps.length - (intOf i).toNat)
  case atStart => exact ⟨0, Nat.zero_le _, rfl, vsOk_zero n ps, ndT_zero ps, HB0, (Below.refl _ _).alloc (Nat.le_refl _) _⟩
  case round =>
    obtain ⟨k, hk, rfl, HV, HN, HB, hE⟩ := hrel
    by_cases hlt : (k : Int) < ps.length
    · have hkl : k < ps.length := by omega
      have hz : wr.cell? ⟨b, off + k, none⟩ = some (.int .i64 (el ps k)) := (HC.out.below hE hb) k hkl
      have hk0 : (0 : Int) ≤ k := by omega
      by_cases hin : 0 ≤ el ps k ∧ el ps k ≤ (n : Int) - 1
      · have hcall : ∀ W, Calls Tryd.prog 96 #[.int .i64 (el ps k), .int .i64 0, .int .i64 ((n : Int) - 1)] W fun e w' => e = .returned (.bool true) ∧ W = w' := fun W => by
          have := in_any (el ps k) 0 ((n : Int) - 1) W
          rw [← Bool.decide_and, decide_eq_true hin] at this
          exact this
        have HV1 : Hid (vsOk n ps (k + 1) = true) := by show _ = _; rw [vsOk_succ, HV.out]; simp [hin]
        have hnd := ndT_succ ps k
        have hms : msk ps (k + 1) = msk ps k ||| 2 ^ (el ps k).toNat := rfl
        have hnn := fun (h : (msk ps k).testBit (el ps k).toNat = true) => ndT_no hkl h
        obtain ⟨p, hp⟩ := Int.eq_ofNat_of_zero_le hin.1
        have hpn : p < n := by omega
        have hcb : wr.cell? ⟨w.heap.size, p, none⟩ = some (.bool ((msk ps k).testBit p)) := by
          have := HB.out.cell (i := p) (by rw [boolsF_length]; exact hpn)
          rw [eb_boolsF _ _ _ hpn] at this
          exact this
        have hfb := HB.out.frozen p
        have hp0 : (0 : Int) ≤ p := by omega
        have hp1 : (p : Int) < n := by omega
        rw [hp] at hz hcall
        rw [hp, Int.toNat_natCast] at hnd hms hnn
        cases ht : (msk ps k).testBit p with
        | true =>
          have HRB : Hid (renB n ps = false) := by show _ = _; unfold renB; rw [hnn ht]; simp
          rw [ht] at hcb
          clear hin HV HN HB hnd hms hnn hp ht HV1
          go_wp2_with (go_at_call 96; refine (hcall _).mono ?_; rintro e w2 ⟨rfl, rfl⟩)
          go_ret
          exact ⟨ret_bool HRB.out.symm, hE⟩
        | false =>
          have HN1 : Hid (ndT ps (k + 1) = true) := by show _ = _; rw [hnd, HN.out, ht]; rfl
          have HB1 : Hid (BBlk (wr.setCell ⟨w.heap.size, p, none⟩ (.bool true)) w.heap.size (boolsF n fun j => (msk ps (k + 1)).testBit j)) := by
            show BBlk _ _ _
            have := HB.out.set p true
            rw [boolsF_set] at this
            rw [show (fun j => (msk ps (k + 1)).testBit j) = fun y => (msk ps k).testBit y || y == p by
              funext j
              rw [hms, Nat.testBit_or, Nat.testBit_two_pow]
              congr 1
              by_cases hpj : p = j
              · subst hpj; simp
              · have hjp : ¬ j = p := fun e => hpj e.symm
                simp [hpj, hjp]]
            exact this
          have hE1 : Below w.heap.size w (wr.setCell ⟨w.heap.size, p, none⟩ (.bool true)) := hE.setCell (p := ⟨w.heap.size, p, none⟩) (Nat.le_refl _) _
          rw [ht] at hcb
          clear hin HV HN HB hnd hms hnn hp ht
          go_wp2_with (go_at_call 96; refine (hcall _).mono ?_; rintro e w2 ⟨rfl, rfl⟩)
          go_roundw
          case rel => exact ⟨k + 1, by omega, by go_num, HV1, HN1, HB1, hE1⟩
          case measure => simp [intOf]; omega
      · have HRB : Hid (renB n ps = false) := by
          show _ = _
          unfold renB
          cases e : vsOk n ps ps.length with
          | false => simp
          | true => exact absurd (vs_at e hkl) hin
        have hcall : ∀ W, Calls Tryd.prog 96 #[.int .i64 (el ps k), .int .i64 0, .int .i64 ((n : Int) - 1)] W fun e w' => e = .returned (.bool false) ∧ W = w' := fun W => by
          have := in_any (el ps k) 0 ((n : Int) - 1) W
          rw [← Bool.decide_and, decide_eq_false hin] at this
          exact this
        clear hin HV HN HB
        go_wp2_with (go_at_call 96; refine (hcall _).mono ?_; rintro e w2 ⟨rfl, rfl⟩)
        go_ret
        exact ⟨ret_bool HRB.out.symm, hE⟩
    · have hkl : k = ps.length := by omega
      subst hkl
      have HRB : Hid (((ps.length : Int) == (n : Int)) = renB n ps) := by
        show _ = _
        unfold renB
        rw [HV.out, HN.out, Bool.and_true, Bool.and_true, Bool.eq_iff_iff]
        simp
      clear HV HN HB
      go_wp2
      go_ret
      exact ⟨ret_bool HRB.out, hE⟩

set_option maxHeartbeats 1600000 in
theorem order_any (n : Nat) (v : Value) (ps : List Int) (w : World) (h : Sl w v ps) (hl : ps.length ≤ 1048576) (h1 : 1 ≤ n) (h2 : n ≤ 62) :
    Calls Tryd.prog 79 #[v, .int .i64 n] w fun e w' => e = .returned (.bool (renB n ps)) ∧ Below w.heap.size w w' := by
  rcases h with ⟨a, c, rfl, rfl⟩ | ⟨b, off, cap, rfl, hb, hc⟩
  · have hR : renB n [] = false := by unfold renB; rw [decide_eq_false (by simp; omega)]; rfl
    have hne : ((0 : Int) == (n : Int)) = false := beq_eq_false_iff_ne.2 (by omega)
    have hmk := run_mkBools n (by omega)
    have hE0 : Below w.heap.size w (w.alloc (.cells (boolsA (List.replicate n false)) 4)) := (Below.refl _ _).alloc (Nat.le_refl _) _
    rw [hR]
    go_enter Tryd.func79, Tryd.ntmps79
    go_wp2_with fail
    go_loopw [6] (fun i wr => i = .int .i64 0 ∧ Below w.heap.size w wr) (fun _ _ => 0)
    case atStart => exact ⟨rfl, hE0⟩
    case round =>
      obtain ⟨rfl, hE⟩ := hrel
      go_wp2
      go_ret
      exact ⟨rfl, hE⟩
  · exact order_some n b off cap ps w hb hc hl h1 h2
end Go.Proofs.YtabkfihhfkmioaaDoor
