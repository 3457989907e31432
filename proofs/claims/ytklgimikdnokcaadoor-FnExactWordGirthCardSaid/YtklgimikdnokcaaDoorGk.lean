/-
  The methods of impl's groups: order, product, quotient. (A plain seat.)
-/
import Derived.Test.YtklgimikdnokcaaDoorGt
namespace Go.Proofs.YtklgimikdnokcaaDoor
set_option maxRecDepth 100000
open Go.RowKit

set_option maxHeartbeats 800000 in
theorem order_0 (p : Nat) (w : World) (h : gOk 0 p = true) :
    Calls Tryd.prog 85 #[.agg #[.int .i64 p]] w fun e w' => e = .returned (.int .i64 (gOrd 0 p : Nat)) ∧ Below w.heap.size w w' := by
  have D0 : Below w.heap.size w (w.alloc (.cells #[.int .i64 p] 84)) := (Below.refl _ _).alloc (Nat.le_refl _) _
  have h1 : (p : Int) ≤ 62 := by have := gOk_pos h; omega
  unfold gOrd
  go_enter Tryd.func85, Tryd.ntmps85
  go_wp2
  go_ret
  exact ⟨ret_int (by simp), D0⟩

set_option maxHeartbeats 800000 in
theorem order_1 (p : Nat) (w : World) (h : gOk 1 p = true) :
    Calls Tryd.prog 88 #[.agg #[.int .i64 p]] w fun e w' => e = .returned (.int .i64 (gOrd 1 p : Nat)) ∧ Below w.heap.size w w' := by
  have D0 : Below w.heap.size w (w.alloc (.cells #[.int .i64 p] 85)) := (Below.refl _ _).alloc (Nat.le_refl _) _
  have h1 : (p : Int) ≤ 62 := by have := gOk_pos h; omega
  unfold gOrd
  go_enter Tryd.func88, Tryd.ntmps88
  go_wp2
  go_ret
  exact ⟨ret_int (by simp), D0⟩

set_option maxHeartbeats 800000 in
theorem order_2 (p : Nat) (w : World) (h : gOk 2 p = true) :
    Calls Tryd.prog 91 #[.agg #[.int .i64 p]] w fun e w' => e = .returned (.int .i64 (gOrd 2 p : Nat)) ∧ Below w.heap.size w w' := by
  have D0 : Below w.heap.size w (w.alloc (.cells #[.int .i64 p] 88)) := (Below.refl _ _).alloc (Nat.le_refl _) _
  simp only [gOk, Bool.or_eq_true, beq_iff_eq] at h
  rcases h with ((rfl | rfl) | rfl) | rfl
  all_goals
    go_enter Tryd.func91, Tryd.ntmps91
    go_wp2
    go_ret
    exact ⟨rfl, D0⟩

set_option maxHeartbeats 800000 in
theorem product_0 (p x y : Nat) (w : World) (h : gOk 0 p = true) (hx : x < p) (hy : y < p) :
    Calls Tryd.prog 86 #[.agg #[.int .i64 p], .int .i64 x, .int .i64 y] w fun e w' => e = .returned (.int .i64 (gMul 0 p x y : Nat)) ∧ Below w.heap.size w w' := by
  have D0 : Below w.heap.size w (w.alloc (.cells #[.int .i64 p] 84)) := (Below.refl _ _).alloc (Nat.le_refl _) _
  have h1 := gOk_pos h
  have m1 := Int.emod_nonneg ((x : Int) + y) (b := (p : Int)) (by omega)
  have m2 := Int.emod_lt_of_pos ((x : Int) + y) (b := (p : Int)) (by omega)
  unfold gMul
  go_enter Tryd.func86, Tryd.ntmps86
  go_wp2
  go_ret
  exact ⟨ret_int (by simp), D0⟩

set_option maxHeartbeats 800000 in
theorem quotient_0 (p x y : Nat) (w : World) (h : gOk 0 p = true) (hx : x < p) (hy : y < p) :
    Calls Tryd.prog 87 #[.agg #[.int .i64 p], .int .i64 x, .int .i64 y] w fun e w' => e = .returned (.int .i64 (gQuo 0 p x y : Nat)) ∧ Below w.heap.size w w' := by
  have D0 : Below w.heap.size w (w.alloc (.cells #[.int .i64 p] 84)) := (Below.refl _ _).alloc (Nat.le_refl _) _
  have h1 := gOk_pos h
  have m1 := Int.emod_nonneg ((x : Int) + p - y) (b := (p : Int)) (by omega)
  have m2 := Int.emod_lt_of_pos ((x : Int) + p - y) (b := (p : Int)) (by omega)
  have HR := Lib.hid (show (((x + p - y) % p : Nat) : Int) = ((x : Int) + p - y) % p by rw [Int.natCast_emod, Int.natCast_sub (by omega)]; simp)
  unfold gQuo
  go_enter Tryd.func87, Tryd.ntmps87
  go_wp2
  go_ret
  exact ⟨ret_int HR.out.symm, D0⟩

set_option maxHeartbeats 3200000 in
theorem product_1 (p x y : Nat) (w : World) (h : gOk 1 p = true) (hx : x < 2 * p) (hy : y < 2 * p) :
    Calls Tryd.prog 89 #[.agg #[.int .i64 p], .int .i64 x, .int .i64 y] w fun e w' => e = .returned (.int .i64 (gMul 1 p x y : Nat)) ∧ Below w.heap.size w w' := by
  have h1 := gOk_pos h
  have hx2 : x / p < 2 := Nat.div_lt_of_lt_mul (by omega)
  have hy2 : y / p < 2 := Nat.div_lt_of_lt_mul (by omega)
  obtain ⟨i, hi⟩ : ∃ i, i = x % p := ⟨_, rfl⟩
  obtain ⟨j, hj⟩ : ∃ j, j = y % p := ⟨_, rfl⟩
  have il : i < p := by rw [hi]; exact Nat.mod_lt _ (by omega)
  have jl : j < p := by rw [hj]; exact Nat.mod_lt _ (by omega)
  have hi' : (x : Int) % (p : Int) = (i : Int) := by rw [hi]; simp
  have hj' : (y : Int) % (p : Int) = (j : Int) := by rw [hj]; simp
  have hg : gMul 1 p x y = (x / p + y / p) % 2 * p + (i + (if x / p = 1 then p - j else j)) % p := by rw [hi, hj]; rfl
  have hp : (1 : Int) ≤ p := by omega
  have hp2 : (p : Int) ≤ 62 := by omega
  clear hi hj
  rcases two_of hx2 with he | he <;> rcases two_of hy2 with hf | hf <;> rw [he, hf] at hg
  · have m1 := Int.emod_nonneg ((i : Int) + j) (b := (p : Int)) (by omega)
    have m2 := Int.emod_lt_of_pos ((i : Int) + j) (b := (p : Int)) (by omega)
    have HR := Lib.hid (show (((gMul 1 p x y : Nat) : Int)) = ((i : Int) + j) % p by rw [hg]; simp)
    have he' := div_cast he
    have hf' := div_cast hf
    simp only [Int.natCast_zero] at he' hf'
    clear hg he hf hx2 hy2
    go_enter Tryd.func89, Tryd.ntmps89
    go_wp2
    go_quiet (fail)
    go_wp2
    go_quiet (fail)
    go_wp2
    go_quiet (fail)
    go_wp2
    go_ret
    exact ⟨ret_int HR.out.symm, drewN_below (below_box _ _) _⟩
  · have m1 := Int.emod_nonneg ((i : Int) + j) (b := (p : Int)) (by omega)
    have m2 := Int.emod_lt_of_pos ((i : Int) + j) (b := (p : Int)) (by omega)
    have HR := Lib.hid (show (((gMul 1 p x y : Nat) : Int)) = p + ((i : Int) + j) % p by rw [hg]; simp)
    have he' := div_cast he
    have hf' := div_cast hf
    simp only [Int.natCast_zero, Int.natCast_one] at he' hf'
    clear hg he hf hx2 hy2
    go_enter Tryd.func89, Tryd.ntmps89
    go_wp2
    go_quiet (fail)
    go_wp2
    go_quiet (fail)
    go_wp2
    go_quiet (fail)
    go_wp2
    go_ret
    exact ⟨ret_int HR.out.symm, drewN_below (below_box _ _) _⟩
  · have m1 := Int.emod_nonneg ((i : Int) + (p - j)) (b := (p : Int)) (by omega)
    have m2 := Int.emod_lt_of_pos ((i : Int) + (p - j)) (b := (p : Int)) (by omega)
    have HR := Lib.hid (show (((gMul 1 p x y : Nat) : Int)) = p + ((i : Int) + (p - j)) % p by rw [hg]; simp [Int.natCast_sub (Nat.le_of_lt jl)])
    have he' := div_cast he
    have hf' := div_cast hf
    simp only [Int.natCast_zero, Int.natCast_one] at he' hf'
    clear hg he hf hx2 hy2
    go_enter Tryd.func89, Tryd.ntmps89
    go_wp2
    go_quiet (fail)
    go_wp2
    go_quiet (fail)
    go_wp2
    go_quiet (fail)
    go_wp2
    go_ret
    exact ⟨ret_int HR.out.symm, drewN_below (below_box _ _) _⟩
  · have m1 := Int.emod_nonneg ((i : Int) + (p - j)) (b := (p : Int)) (by omega)
    have m2 := Int.emod_lt_of_pos ((i : Int) + (p - j)) (b := (p : Int)) (by omega)
    have HR := Lib.hid (show (((gMul 1 p x y : Nat) : Int)) = ((i : Int) + (p - j)) % p by rw [hg]; simp [Int.natCast_sub (Nat.le_of_lt jl)])
    have he' := div_cast he
    have hf' := div_cast hf
    simp only [Int.natCast_one] at he' hf'
    clear hg he hf hx2 hy2
    go_enter Tryd.func89, Tryd.ntmps89
    go_wp2
    go_quiet (fail)
    go_wp2
    go_quiet (fail)
    go_wp2
    go_quiet (fail)
    go_wp2
    go_ret
    exact ⟨ret_int HR.out.symm, drewN_below (below_box _ _) _⟩

set_option maxHeartbeats 1600000 in
theorem quotient_1 (p x y : Nat) (w : World) (h : gOk 1 p = true) (hx : x < 2 * p) (hy : y < 2 * p) :
    Calls Tryd.prog 90 #[.agg #[.int .i64 p], .int .i64 x, .int .i64 y] w fun e w' => e = .returned (.int .i64 (gQuo 1 p x y : Nat)) ∧ Below w.heap.size w w' := by
  have h1 := gOk_pos h
  have D0 : Below w.heap.size w (w.alloc (.cells #[.int .i64 p] 85)) := (Below.refl _ _).alloc (Nat.le_refl _) _
  obtain ⟨z, hz⟩ : ∃ z, z = if y < p then (p - y) % p else y := ⟨_, rfl⟩
  have zl : z < 2 * p := by
    have := Nat.mod_lt (p - y) (show p > 0 by omega)
    rw [hz]; split <;> omega
  have hc := product_1 p x z (w.alloc (.cells #[.int .i64 p] 85)) h hx zl
  have HG := Lib.hid (show gQuo 1 p x y = gMul 1 p x z by rw [hz]; rfl)
  by_cases hlt : y < p
  · rw [if_pos hlt] at hz
    have m1 := Int.emod_nonneg ((p : Int) - y) (b := (p : Int)) (by omega)
    have m2 := Int.emod_lt_of_pos ((p : Int) - y) (b := (p : Int)) (by omega)
    have hz' : ((p : Int) - y) % p = (z : Int) := by rw [hz, Int.natCast_emod, Int.natCast_sub (by omega)]
    clear hz
    go_enter Tryd.func90, Tryd.ntmps90
    go_wp2_with (go_at_call 89; rw [hz']; refine hc.mono ?_; rintro e w1 ⟨rfl, hb⟩)
    go_ret
    exact ⟨ret_int (by rw [HG.out]), D0.trans (hb.mono (by simp))⟩
  · rw [if_neg hlt] at hz
    subst hz
    go_enter Tryd.func90, Tryd.ntmps90
    go_wp2_with (go_at_call 89; refine hc.mono ?_; rintro e w1 ⟨rfl, hb⟩)
    go_ret
    exact ⟨ret_int (by rw [HG.out]), D0.trans (hb.mono (by simp))⟩

set_option maxHeartbeats 1600000 in
theorem mapOf_any (p x a b : Nat) (w : World) (h : gOk 2 p = true) (hx : x < gOrd 2 p) (ha : x / p + 1 = a) (hb : x % p = b) :
    Calls Tryd.prog 94 #[.agg #[.int .i64 p], .int .i64 x] w fun e w' => e = .returned (.tuple #[.int .i64 a, .int .i64 b]) ∧ Below w.heap.size w w' := by
  have h1 := gOk_pos h
  have h2 := aff_div h hx
  have h3 := gOrd_le h
  have q1 : (x : Int) / (p : Int) = ((x / p : Nat) : Int) := by simp
  have q2 : (x : Int) % (p : Int) = ((x % p : Nat) : Int) := by simp
  obtain ⟨c, hc⟩ : ∃ c, x / p = c := ⟨_, rfl⟩
  rw [hc] at q1 ha h2
  rw [hb] at q2 h2
  subst ha
  clear hb hc h
  go_enter Tryd.func94, Tryd.ntmps94
  go_wp2
  go_quiet (fail)
  go_wp2
  go_ret2
  exact ⟨by rw [q2]; rfl, below_box _ _⟩

set_option maxHeartbeats 1600000 in
theorem elementOf_at (p a b : Nat) (A B : Int) (w : World) (h : gOk 2 p = true) (ha : a ≤ 100) (hb : b ≤ 100) (h1 : 1 ≤ a % p) (eA : A = (a : Int)) (eB : B = (b : Int)) :
    Calls Tryd.prog 95 #[.agg #[.int .i64 p], .int .i64 A, .int .i64 B] w fun e w' => e = .returned (.int .i64 (((a % p - 1) * p + b % p : Nat) : Int)) ∧ Below w.heap.size w w' := by
  subst eA; subst eB
  simp only [gOk, Bool.or_eq_true, beq_iff_eq] at h
  rcases h with ((rfl | rfl) | rfl) | rfl
  all_goals
    go_enter Tryd.func95, Tryd.ntmps95
    go_wp2
    go_quiet (fail)
    go_wp2
    go_ret
    exact ⟨ret_int (by omega), below_box _ _⟩

set_option maxHeartbeats 1600000 in
theorem product_2 (p x y : Nat) (w : World) (h : gOk 2 p = true) (hx : x < gOrd 2 p) (hy : y < gOrd 2 p) :
    Calls Tryd.prog 92 #[.agg #[.int .i64 p], .int .i64 x, .int .i64 y] w fun e w' => e = .returned (.int .i64 (gMul 2 p x y : Nat)) ∧ Below w.heap.size w w' := by
  have D0 : Below w.heap.size w (w.alloc (.cells #[.int .i64 p] 88)) := (Below.refl _ _).alloc (Nat.le_refl _) _
  have HB0 := Lib.hid (World.alloc_heap_new w (.cells #[.int .i64 p] 88))
  have hp7 : p ≤ 7 := by simp [gOk] at h; omega
  have u1 := aff_div h hx
  have u2 := aff_div h hy
  have hac := ac_pos h (Nat.le_add_left 1 _) u1.1 (Nat.le_add_left 1 _) u2.1
  obtain ⟨a, ha⟩ : ∃ a, x / p + 1 = a := ⟨_, rfl⟩
  obtain ⟨b, hb⟩ : ∃ b, x % p = b := ⟨_, rfl⟩
  obtain ⟨c, hc⟩ : ∃ c, y / p + 1 = c := ⟨_, rfl⟩
  obtain ⟨d, hd⟩ : ∃ d, y % p = d := ⟨_, rfl⟩
  have HM1 := Lib.hid (fun W => mapOf_any p x a b W h hx ha hb)
  have HM2 := Lib.hid (fun W => mapOf_any p y c d W h hy hc hd)
  rw [ha, hc] at hac
  rw [ha, hb] at u1
  rw [hc, hd] at u2
  obtain ⟨p1, p2⟩ := mul_bd6 (a := (a : Int)) (b := (c : Int)) (by omega) (by omega) (by omega) (by omega)
  obtain ⟨p3, p4⟩ := mul_bd6 (a := (a : Int)) (b := (d : Int)) (by omega) (by omega) (by omega) (by omega)
  have HE := Lib.hid (fun W => elementOf_at p (a * c) (a * d + b) ((a : Int) * c) ((a : Int) * d + b) W h (by have := Int.natCast_mul a c; omega) (by have := Int.natCast_mul a d; omega) hac (by simp) (by simp))
  have HG := Lib.hid (show gMul 2 p x y = (a * c % p - 1) * p + (a * d + b) % p by simp only [gMul]; rw [ha, hb, hc, hd])
  clear ha hb hc hd hac h hx hy
  go_enter Tryd.func92, Tryd.ntmps92
  go_wp2_with fail
  refine (HM1.out _).mono ?_
  rintro e w1 ⟨rfl, hb1⟩
  have s1 := hb1.size
  rw [World.size_alloc] at hb1 s1
  have c1 := cell_of_row w1 w.heap.size 0 _ _ _ ((hb1.block w.heap.size (by omega)).trans HB0.out)
  go_wp2_with fail
  refine (HM2.out _).mono ?_
  rintro e w2 ⟨rfl, hb2⟩
  have s2 := hb2.size
  have E2 := hb1.trans (hb2.mono s1)
  clear hb1 hb2 c1
  have c2 := cell_of_row w2 w.heap.size 0 _ _ _ ((E2.block w.heap.size (by omega)).trans HB0.out)
  go_wp2_with fail
  refine (HE.out _).mono ?_
  rintro e w3 ⟨rfl, hb3⟩
  go_wp2
  go_ret
  exact ⟨ret_int (by rw [HG.out]; simp), D0.trans ((E2.trans (hb3.mono (by omega))).mono (by omega))⟩

set_option maxHeartbeats 1600000 in
theorem quotient_2 (p x y : Nat) (w : World) (h : gOk 2 p = true) (hx : x < gOrd 2 p) (hy : y < gOrd 2 p) :
    Calls Tryd.prog 93 #[.agg #[.int .i64 p], .int .i64 x, .int .i64 y] w fun e w' => e = .returned (.int .i64 (gQuo 2 p x y : Nat)) ∧ Below w.heap.size w w' := by
  have D0 : Below w.heap.size w (w.alloc (.cells #[.int .i64 p] 88)) := (Below.refl _ _).alloc (Nat.le_refl _) _
  have HB0 := Lib.hid (World.alloc_heap_new w (.cells #[.int .i64 p] 88))
  have hp7 : p ≤ 7 := by simp [gOk] at h; omega
  have u1 := aff_div h hx
  have u2 := aff_div h hy
  have hE := gE_ok h (Nat.le_add_left 1 _) u1.1 (Nat.le_add_left 1 _) u2.1
  obtain ⟨a, ha⟩ : ∃ a, x / p + 1 = a := ⟨_, rfl⟩
  obtain ⟨b, hb⟩ : ∃ b, x % p = b := ⟨_, rfl⟩
  obtain ⟨c, hc⟩ : ∃ c, y / p + 1 = c := ⟨_, rfl⟩
  obtain ⟨d, hd⟩ : ∃ d, y % p = d := ⟨_, rfl⟩
  obtain ⟨E, hEE⟩ : ∃ E, gE p c a p 1 = E := ⟨_, rfl⟩
  have HM1 := Lib.hid (fun W => mapOf_any p x a b W h hx ha hb)
  have HM2 := Lib.hid (fun W => mapOf_any p y c d W h hy hc hd)
  rw [ha, hc, hEE] at hE
  rw [ha, hb] at u1
  rw [hc, hd] at u2
  obtain ⟨e1, e2, e3, e4⟩ := hE
  obtain ⟨p3, p4⟩ := mul_bd6 (a := (p : Int) - E) (b := (d : Int)) (by omega) (by omega) (by omega) (by omega)
  have hpe : ((p - E : Nat) : Int) = (p : Int) - E := by omega
  have HE := Lib.hid (fun W => elementOf_at p E (b + (p - E) * d) (E : Int) ((b : Int) + ((p : Int) - E) * d) W h (by omega) (by have := Int.natCast_mul (p - E) d; rw [hpe] at this; omega) (by rw [Nat.mod_eq_of_lt e2]; exact e1) rfl (by rw [Int.natCast_add, Int.natCast_mul, hpe]))
  have HG := Lib.hid (show gQuo 2 p x y = (E % p - 1) * p + (b + (p - E) * d) % p by simp only [gQuo]; rw [ha, hc, hEE, hb, hd])
  have H3 := Lib.hid e3
  have H4 := Lib.hid e4
  clear ha hb hc hd h hx hy hEE e3 e4 hpe
  go_enter Tryd.func93, Tryd.ntmps93
  go_wp2_with fail
  refine (HM1.out _).mono ?_
  rintro e w1 ⟨rfl, hb1⟩
  have s1 := hb1.size
  rw [World.size_alloc] at hb1 s1
  have c1 := cell_of_row w1 w.heap.size 0 _ _ _ ((hb1.block w.heap.size (by omega)).trans HB0.out)
  go_wp2_with fail
  refine (HM2.out _).mono ?_
  rintro e w2 ⟨rfl, hb2⟩
  have s2 := hb2.size
  have E2 := hb1.trans (hb2.mono s1)
  clear hb1 hb2 c1
  have c2 := cell_of_row w2 w.heap.size 0 _ _ _ ((E2.block w.heap.size (by omega)).trans HB0.out)
  go_wp2_with fail
  go_loop [11] (fun i => ∃ v : Nat, 1 ≤ v ∧ v ≤ E ∧ i = .int .i64 v) (fun i => E - (intOf i).toNat)
  case atStart => exact ⟨1, Nat.le_refl _, e1, rfl⟩
  case round =>
    obtain ⟨v, hv1, hv2, rfl⟩ := hrel
    obtain ⟨p1, p2⟩ := mul_bd6 (a := (v : Int)) (b := (c : Int)) (by omega) (by omega) (by omega) (by omega)
    by_cases hlt : v < E
    · have hne : (((v : Int) * c % p) == (a : Int)) = false := by
        rw [beq_eq_false_iff_ne]
        intro e
        apply H4.out v hv1 hlt
        have : ((v * c % p : Nat) : Int) = (a : Int) := by rw [Int.natCast_emod, Int.natCast_mul]; exact e
        omega
      go_wp2_with fail
      go_round
      case rel => exact ⟨v + 1, by omega, by omega, by go_num⟩
      case measure => simp [intOf]; omega
    · obtain rfl : v = E := by omega
      have heq : ((v : Int) * c % p) = (a : Int) := by
        rw [← H3.out, Int.natCast_emod, Int.natCast_mul]
      go_wp2_with fail
      refine (HE.out _).mono ?_
      rintro e w3 ⟨rfl, hb3⟩
      go_wp2
      go_ret
      exact ⟨ret_int (by rw [HG.out]; simp), D0.trans ((E2.trans (hb3.mono (by omega))).mono (by omega))⟩
end Go.Proofs.YtklgimikdnokcaaDoor
