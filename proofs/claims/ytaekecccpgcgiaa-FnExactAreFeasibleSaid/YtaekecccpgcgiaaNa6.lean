/-
  Numbers at distances: plain facts, and impl.areNumbersUpTo.
-/
import Derived.Test.YtaekecccpgcgiaaPg
import Derived.Test.YtaekecccpgcgiaaNu8
namespace Go.Proofs.Ytaekecccpgcgiaa
open Go.RowKit

def numB (g x : Int) : Bool := decide (1 ≤ x) && decide (x ≤ g)
theorem numB_iff (g x : Int) : numB g x = true ↔ 1 ≤ x ∧ x ≤ g := by simp [numB]
def numsOk (g : Int) (zs : List Int) (k : Nat) : Bool := (List.range k).all fun i => numB g (el zs i)
theorem numsOk_zero (g : Int) (zs : List Int) : numsOk g zs 0 = true := rfl
theorem numsOk_succ (g : Int) (zs : List Int) (k : Nat) : numsOk g zs (k + 1) = (numsOk g zs k && numB g (el zs k)) := by simp [numsOk, List.range_succ]
theorem numsOk_at {g : Int} {zs : List Int} {k : Nat} (h : numsOk g zs k = true) {i : Nat} (hi : i < k) : 1 ≤ el zs i ∧ el zs i ≤ g := by
  unfold numsOk at h; rw [List.all_eq_true] at h
  exact (numB_iff _ _).1 (h i (List.mem_range.2 hi))
theorem numsOk_no {g : Int} {zs : List Int} {k i : Nat} (hi : i < k) (h : numB g (el zs i) = false) : numsOk g zs k = false := by
  cases e : numsOk g zs k with
  | false => rfl
  | true => rw [(numB_iff _ _).2 (numsOk_at e hi)] at h; exact absurd h (by simp)

def nuB (g : Int) (most : Nat) (js : List Int) : Bool := decide (js.length ≤ most) && numsOk g js js.length

set_option maxHeartbeats 800000 in
theorem areNums_far (g : Int) (most : Nat) (a : Option Addr) (len cap : Nat) (w : World) (h : most < len) :
    Calls Try.prog 43 #[.int .i64 g, .int .i64 most, .slice a len cap] w fun e w' => e = .returned (.bool false) ∧ w = w' := by
  have h1 : (most : Int) < len := by omega
  go_enter Try.func43, Try.ntmps43
  go_wp2_with fail
  go_ret
  exact ⟨rfl, rfl⟩

set_option maxHeartbeats 800000 in
theorem areNums_nil (g : Int) (most : Nat) (a : Option Addr) (c : Nat) (w : World) :
    Calls Try.prog 43 #[.int .i64 g, .int .i64 most, .slice a 0 c] w fun e w' => e = .returned (.bool true) ∧ w = w' := by
  have h0 : ¬ (most : Int) < 0 := by omega
  go_enter Try.func43, Try.ntmps43
  go_wp2_with fail
  go_loop [8, 15] (fun _ i => i = .int .i64 0) (fun _ _ => 0)
  case atStart => exact rfl
  case round =>
    obtain rfl := hrel
    go_wp2_with fail
    go_ret
    exact ⟨rfl, rfl⟩

set_option maxHeartbeats 1600000 in
theorem areNums_some (g : Int) (most : Nat) (b off cap : Nat) (js : List Int) (w : World) (hc : Cells w b off js) (hl : js.length ≤ 9223372036854775807) (hm : js.length ≤ most) :
    Calls Try.prog 43 #[.int .i64 g, .int .i64 most, .slice (some ⟨b, off, none⟩) js.length cap] w fun e w' => e = .returned (.bool (numsOk g js js.length)) ∧ w = w' := by
  have HC := Lib.hid hc; clear hc
  have h1 : ¬ (most : Int) < js.length := by omega
  go_enter Try.func43, Try.ntmps43
  go_wp2_with fail
  go_loop [8, 15] (fun _ i => ∃ k : Nat, k ≤ js.length ∧ i = .int .i64 k ∧ Hid (numsOk g js k = true)) (fun _ i => js.length - (intOf i).toNat)
  case atStart => exact ⟨0, Nat.zero_le _, rfl, rfl⟩
  case round =>
    obtain ⟨k, hk, rfl, HK⟩ := hrel
    by_cases hlt : (k : Int) < js.length
    · have hkl : k < js.length := by omega
      have hz : w.cell? ⟨b, off + k, none⟩ = some (.int .i64 (el js k)) := HC.out k hkl
      have hk0 : (0 : Int) ≤ k := by omega
      by_cases hg : numB g (el js k) = true
      · obtain ⟨g1, g2⟩ := (numB_iff _ _).1 hg
        have HK2 : Hid (numsOk g js (k + 1) = true) := by show _ = _; rw [numsOk_succ, HK.out, hg]; rfl
        have g3 : ¬ el js k < 1 := by omega
        have g4 : ¬ g < el js k := by omega
        have hnum := fun W => upTo_val g (el js k) W true (by simp; omega)
        clear hg g3 g4
        go_wp2_with (go_at_call 31; with_reducible refine (hnum _).mono ?_; rintro e w3 ⟨rfl, rfl⟩)
        go_round
        case rel => exact ⟨k + 1, by omega, by go_num, HK2⟩
        case measure => simp [intOf]; omega
      · have HNO := Lib.hid (numsOk_no hkl (show numB g (el js k) = false by simpa using hg))
        have hbad : el js k < 1 ∨ (1 ≤ el js k ∧ g < el js k) := by
          have : ¬ (1 ≤ el js k ∧ el js k ≤ g) := fun h => hg ((numB_iff _ _).2 h)
          omega
        clear hg
        have hnum := fun W => upTo_val g (el js k) W false (by simp; omega)
        clear hbad
        go_wp2_with (go_at_call 31; with_reducible refine (hnum _).mono ?_; rintro e w3 ⟨rfl, rfl⟩)
        go_ret
        exact ⟨ret_bool HNO.out.symm, rfl⟩
    · obtain rfl : k = js.length := by omega
      go_wp2_with fail
      go_ret
      exact ⟨ret_bool HK.out.symm, rfl⟩

theorem areNums_any (g : Int) (most : Nat) (v : Value) (js : List Int) (w : World) (hs : Sl w v js) (hl : js.length ≤ 9223372036854775807) :
    Calls Try.prog 43 #[.int .i64 g, .int .i64 most, v] w fun e w' => e = .returned (.bool (nuB g most js)) ∧ w = w' := by
  unfold nuB
  by_cases h : js.length ≤ most
  · rw [decide_eq_true h, Bool.true_and]
    rcases hs with ⟨a, c, rfl, rfl⟩ | ⟨b, off, cap, rfl, hb, hc⟩
    · exact areNums_nil g most a c w
    · exact areNums_some g most b off cap js w hc hl h
  · rw [decide_eq_false h, Bool.false_and, slForm hs]
    exact areNums_far g most _ _ _ w (by omega)

set_option maxHeartbeats 400000 in
theorem areArr_any (v : Value) (js : List Int) (w : World) (hs : Sl w v js) (hl : js.length ≤ 9223372036854775807) :
    Calls Try.prog 39 #[v] w fun e w' => e = .returned (.bool (nuB 62 10 js)) ∧ w = w' := by
  have HA := Lib.hid (areNums_any 62 10 v js w hs hl)
  rw [slForm hs] at HA ⊢
  clear hs
  go_enter Try.func39, Try.ntmps39
  go_wp2_with (go_at_call 43; refine HA.out.mono ?_; rintro e w' ⟨rfl, rfl⟩)
  go_ret
  exact ⟨rfl, rfl⟩
-- plain facts

/-- The number at the distance i. -/
def nmK (b c : List Int) : Nat → Int
  | 0 => 1
  | i + 1 => nmK b c i * el b i / el c i
/-- The step behind i comes out even. -/
def nmR (b c : List Int) (i : Nat) : Bool := (nmK b c i * el b i) % el c i == 0
def nmW (b c : List Int) (k : Nat) : Bool := (List.range k).all (nmR b c)
theorem nmW_zero (b c : List Int) : nmW b c 0 = true := rfl
theorem nmW_succ (b c : List Int) (k : Nat) : nmW b c (k + 1) = (nmW b c k && nmR b c k) := by simp [nmW, List.range_succ]
theorem nmW_no {b c : List Int} {k i : Nat} (hi : i < k) (h : nmR b c i = false) : nmW b c k = false := by
  cases e : nmW b c k with
  | false => rfl
  | true =>
    unfold nmW at e; rw [List.all_eq_true] at e
    rw [e i (List.mem_range.2 hi)] at h; exact absurd h (by simp)
def nmL (b c : List Int) (k : Nat) : List Int := (List.range (k + 1)).map (nmK b c)
theorem nmL_length (b c : List Int) (k : Nat) : (nmL b c k).length = k + 1 := by simp [nmL]
theorem nmL_zero (b c : List Int) : nmL b c 0 = [1] := rfl
theorem nmL_succ (b c : List Int) (k : Nat) : nmL b c (k + 1) = nmL b c k ++ [nmK b c (k + 1)] := by simp [nmL, List.range_succ]
theorem nmL_at (b c : List Int) (k i : Nat) (h : i ≤ k) : el (nmL b c k) i = nmK b c i := by
  rw [el_lt (by rw [nmL_length]; omega)]; simp [nmL]

/-- Two lists are as told. -/
def twoOk (b c : List Int) : Bool := decide (b.length = c.length) && decide (1 ≤ b.length) && decide (b.length ≤ 10) && numsOk 62 b b.length && numsOk 62 c c.length
theorem twoOk_iff (b c : List Int) : twoOk b c = true ↔ b.length = c.length ∧ 1 ≤ b.length ∧ b.length ≤ 10 ∧ numsOk 62 b b.length = true ∧ numsOk 62 c c.length = true := by
  simp [twoOk, and_assoc]

theorem nmK_bound (b c : List Int) (k : Nat) (hb : ∀ i, i < k → 1 ≤ el b i ∧ el b i ≤ 62) (hc : ∀ i, i < k → 1 ≤ el c i ∧ el c i ≤ 62) : 0 ≤ nmK b c k ∧ nmK b c k ≤ 62 ^ k := by
  induction k with
  | zero => exact ⟨by simp [nmK], by simp [nmK]⟩
  | succ k ih =>
    obtain ⟨i0, i1⟩ := ih (fun i h => hb i (by omega)) (fun i h => hc i (by omega))
    obtain ⟨b0, b1⟩ := hb k (by omega)
    obtain ⟨c0, -⟩ := hc k (by omega)
    have p0 : 0 ≤ nmK b c k * el b k := Int.mul_nonneg i0 (by omega)
    have p1 : nmK b c k * el b k ≤ 62 ^ k * 62 := Int.mul_le_mul i1 b1 (by omega) (Int.le_trans i0 i1)
    refine ⟨Int.ediv_nonneg p0 (by omega), ?_⟩
    show nmK b c k * el b k / el c k ≤ 62 ^ (k + 1)
    rw [Int.pow_succ]
    exact Int.le_trans (Int.ediv_le_self _ p0) p1
theorem nmK_prod (b c : List Int) (k : Nat) (hk : k < 10) (hb : ∀ i, i ≤ k → 1 ≤ el b i ∧ el b i ≤ 62) (hc : ∀ i, i ≤ k → 1 ≤ el c i ∧ el c i ≤ 62) :
    0 ≤ nmK b c k ∧ nmK b c k ≤ 839299365868340224 ∧ 0 ≤ nmK b c k * el b k ∧ nmK b c k * el b k ≤ 839299365868340224 := by
  obtain ⟨i0, i1⟩ := nmK_bound b c k (fun i h => hb i (by omega)) (fun i h => hc i (by omega))
  obtain ⟨b0, b1⟩ := hb k (by omega)
  have p0 : 0 ≤ nmK b c k * el b k := Int.mul_nonneg i0 (by omega)
  have p1 : nmK b c k * el b k ≤ 62 ^ k * 62 := Int.mul_le_mul i1 b1 (by omega) (Int.le_trans i0 i1)
  have e : (62 : Int) ^ k * 62 ≤ 839299365868340224 := by
    rw [← Int.pow_succ]
    have : k = 0 ∨ k = 1 ∨ k = 2 ∨ k = 3 ∨ k = 4 ∨ k = 5 ∨ k = 6 ∨ k = 7 ∨ k = 8 ∨ k = 9 := by omega
    rcases this with rfl | rfl | rfl | rfl | rfl | rfl | rfl | rfl | rfl | rfl <;> decide
  have e2 : (62 : Int) ^ k ≤ 62 ^ k * 62 := by have : (0 : Int) ≤ 62 ^ k := Int.le_trans i0 i1; omega
  exact ⟨i0, by omega, p0, by omega⟩

def nmQ (b c : List Int) (k : Nat) : List Int := if nmW b c k then nmL b c k else []
def nmD (b c : List Int) (k : Nat) : Int := if nmW b c k then 0 else 5
theorem nmQ_yes {b c : List Int} {k : Nat} (h : nmW b c k = true) : nmQ b c k = nmL b c k := by simp [nmQ, h]
theorem nmQ_no {b c : List Int} {k : Nat} (h : nmW b c k = false) : nmQ b c k = [] := by simp [nmQ, h]
theorem nmD_yes {b c : List Int} {k : Nat} (h : nmW b c k = true) : nmD b c k = 0 := by simp [nmD, h]
theorem nmD_no {b c : List Int} {k : Nat} (h : nmW b c k = false) : nmD b c k = 5 := by simp [nmD, h]
theorem nmQ_length (b c : List Int) (k : Nat) : (nmQ b c k).length ≤ k + 1 := by
  cases h : nmW b c k with
  | true => rw [nmQ_yes h, nmL_length]; exact Nat.le_refl _
  | false => rw [nmQ_no h]; simp
def NmL (b c : List Int) : List Int := if twoOk b c then nmQ b c b.length else []
def NmC (b c : List Int) : Int := if twoOk b c then nmD b c b.length else 2
theorem NmL_length (b c : List Int) : (NmL b c).length ≤ 11 := by
  unfold NmL
  by_cases h : twoOk b c = true
  · rw [if_pos h]
    have := ((twoOk_iff _ _).1 h).2.2.1
    have := nmQ_length b c b.length
    omega
  · rw [if_neg h]; simp
end Go.Proofs.Ytaekecccpgcgiaa
