/-
  Word girths: plain facts. (A tied seat of groups.)
-/
import Derived.Test.YtklgimikdnokcaaDoorNh
import Derived.Test.YtklgimikdnokcaaDoorCb
namespace Go.Proofs.YtklgimikdnokcaaDoor
set_option maxRecDepth 100000
open Go.RowKit

/-- Element i as a number. -/
def en (js : List Int) (i : Nat) : Nat := (el js i).toNat
/-- Whether two letters may follow each other. -/
def fol (k p : Nat) (js : List Int) (j i : Nat) : Bool := gMul k p (en js j) (en js i) != 0
/-- Whether x is the product of a reduced word of L + 1 letters whose last one is i. -/
def wgB (k p : Nat) (js : List Int) : Nat → Nat → Nat → Bool
  | 0, x, i => x == en js i
  | L + 1, x, i => (List.range js.length).any fun j => fol k p js j i && (List.range (gOrd k p)).any fun y => wgB k p js L y j && x == gMul k p y (en js i)
/-- Whether a reduced word of L + 1 letters is the unit. -/
def wgF (k p : Nat) (js : List Int) (L : Nat) : Bool := (List.range js.length).any fun i => wgB k p js L 0 i
/-- The first length from L + 1 on, of so many. -/
def wgG (k p : Nat) (js : List Int) : Nat → Nat → Nat
  | _, 0 => 0
  | L, f + 1 => if wgF k p js L then L + 1 else wgG k p js (L + 1) f
theorem wgG_yes {k p : Nat} {js : List Int} {L f : Nat} (h : wgF k p js L = true) : wgG k p js L (f + 1) = L + 1 := by simp [wgG, h]
theorem wgG_no {k p : Nat} {js : List Int} {L f : Nat} (h : wgF k p js L = false) : wgG k p js L (f + 1) = wgG k p js (L + 1) f := by simp [wgG, h]
theorem wgG_le (k p : Nat) (js : List Int) : ∀ f L, wgG k p js L f ≤ L + f := by
  intro f
  induction f with
  | zero => intro L; simp [wgG]
  | succ f ih =>
    intro L
    unfold wgG
    split
    · omega
    · have := ih (L + 1); omega
theorem wgF_iff {k p L : Nat} {js : List Int} : wgF k p js L = true ↔ ∃ i, i < js.length ∧ wgB k p js L 0 i = true := by
  unfold wgF; simp [List.any_eq_true]
theorem wgF_no {k p L : Nat} {js : List Int} (h : ∀ i, i < js.length → wgB k p js L 0 i = false) : wgF k p js L = false := by
  rw [← Bool.not_eq_true, wgF_iff]
  rintro ⟨i, hi, e⟩
  rw [h i hi] at e; cases e
theorem wgB_succ {k p L x i : Nat} {js : List Int} : wgB k p js (L + 1) x i = true ↔ ∃ j, j < js.length ∧ fol k p js j i = true ∧ ∃ y, y < gOrd k p ∧ wgB k p js L y j = true ∧ x = gMul k p y (en js i) := by
  simp only [wgB, List.any_eq_true, List.mem_range, Bool.and_eq_true, beq_iff_eq]
theorem wgB_lt {k p : Nat} {js : List Int} (h : gOk k p = true) (hj : elOk (gOrd k p) js js.length = true) {L x i : Nat} (hi : i < js.length) (hb : wgB k p js L x i = true) : x < gOrd k p := by
  cases L with
  | zero =>
    have := elOk_at hj hi
    simp only [wgB, beq_iff_eq] at hb
    rw [hb]; unfold en; omega
  | succ L =>
    obtain ⟨j, _, _, y, _, _, e⟩ := wgB_succ.1 hb
    rw [e]; exact gMul_lt h
/-- No element of a connection set is the unit. -/
theorem set_pos {k p : Nat} {js : List Int} (hq : clE k p js = js) {i : Nat} (hi : i < js.length) : en js i ≠ 0 := by
  have hm := el_mem hi
  rw [← hq] at hm
  obtain ⟨y, _, hy, e⟩ := mem_clE.1 hm
  rw [hq] at e
  unfold en
  rw [e, Int.toNat_natCast]
  exact (clF_iff.1 hy).1
theorem wgF_zero {k p : Nat} {js : List Int} (hq : clE k p js = js) : wgF k p js 0 = false := by
  refine wgF_no fun i hi => ?_
  have := set_pos hq hi
  simp only [wgB]
  rw [← Bool.not_eq_true, beq_iff_eq]
  omega
theorem wgG_both {k p : Nat} {js : List Int} (hq : clE k p js = js) : wgG k p js 0 16 = wgG k p js 1 15 := wgG_no (wgF_zero hq)

/-- The rows of the products of words of L + 1 letters, one for each last letter. -/
def wgR (k p : Nat) (js : List Int) (L : Nat) : List Int := (List.range js.length).map fun i => ((bitsN (fun x => wgB k p js L x i) (gOrd k p) : Nat) : Int)
theorem wgR_length (k p : Nat) (js : List Int) (L : Nat) : (wgR k p js L).length = js.length := by simp [wgR]
theorem el_wgR {k p : Nat} {js : List Int} {L i : Nat} (h : i < js.length) : el (wgR k p js L) i = ((bitsN (fun x => wgB k p js L x i) (gOrd k p) : Nat) : Int) := by simp [el, wgR, h]
theorem bitsN_lt62 {k p : Nat} (h : gOk k p = true) (f : Nat → Bool) : bitsN f (gOrd k p) < 2 ^ 62 := Nat.lt_of_lt_of_le (bitsN_lt f _) (Nat.pow_le_pow_right (by decide) (gOrd_le h))
theorem bitsN_congr {f g : Nat → Bool} {n : Nat} (h : ∀ x, x < n → f x = g x) : bitsN f n = bitsN g n := by
  apply Nat.eq_of_testBit_eq; intro i
  rw [bitsN_testBit, bitsN_testBit]
  by_cases hi : i < n
  · rw [h i hi]
  · simp [hi]
theorem bitsN_or (f g : Nat → Bool) (n : Nat) : bitsN f n ||| bitsN g n = bitsN (fun x => f x || g x) n := by
  apply Nat.eq_of_testBit_eq; intro i
  rw [Nat.testBit_or, bitsN_testBit, bitsN_testBit, bitsN_testBit]
  cases decide (i < n) <;> simp
theorem bitsN_one {n y : Nat} (h : y < n) : bitsN (fun x => x == y) n = 2 ^ y := by
  apply Nat.eq_of_testBit_eq; intro i
  rw [bitsN_testBit, Nat.testBit_two_pow]
  by_cases e : y = i
  · subst e; simp [h]
  · have : (i == y) = false := by simp; omega
    simp [this, e]
theorem wgR_zero {k p : Nat} {js : List Int} (hj : elOk (gOrd k p) js js.length = true) {i : Nat} (hi : i < js.length) : el (wgR k p js 0) i = 2 ^ en js i := by
  rw [el_wgR hi]
  have := elOk_at hj hi
  have e : (fun x => wgB k p js 0 x i) = fun x => x == en js i := by funext x; rfl
  rw [e, bitsN_one (by unfold en; omega)]
  push_cast; rfl

/-- What stands before letter j, of the first t letters' rows. -/
def befF (k p : Nat) (js : List Int) (L j t x : Nat) : Bool := (List.range t).any fun i => fol k p js i j && wgB k p js L x i
def befN (k p : Nat) (js : List Int) (L j t : Nat) : Nat := bitsN (befF k p js L j t) (gOrd k p)
theorem befN_zero (k p : Nat) (js : List Int) (L j : Nat) : befN k p js L j 0 = 0 := by unfold befN; exact bitsN_none _
theorem befF_succ (k p : Nat) (js : List Int) (L j t x : Nat) : befF k p js L j (t + 1) x = (befF k p js L j t x || (fol k p js t j && wgB k p js L x t)) := by unfold befF; rw [List.range_succ, List.any_append]; simp
theorem befN_no {k p : Nat} {js : List Int} {L j t : Nat} (h : fol k p js t j = false) : befN k p js L j (t + 1) = befN k p js L j t := by
  unfold befN; exact bitsN_congr fun x _ => by rw [befF_succ, h]; simp
theorem befN_yes {k p : Nat} {js : List Int} {L j t : Nat} (hg : gOk k p = true) (ht : t < js.length) (h : fol k p js t j = true) : bits .or .i64 (befN k p js L j t : Int) (el (wgR k p js L) t) = (befN k p js L j (t + 1) : Nat) := by
  unfold befN
  rw [el_wgR ht, or_i64 _ _ (Nat.lt_trans (bitsN_lt62 hg _) (by decide)) (Nat.lt_trans (bitsN_lt62 hg _) (by decide)), bitsN_or]
  congr 1
  exact bitsN_congr fun x _ => by rw [befF_succ, h]; simp
theorem befN_bd {k p : Nat} {js : List Int} {L j t : Nat} (hg : gOk k p = true) : befN k p js L j t < 2 ^ 62 := bitsN_lt62 hg _

/-- The row of letter j, made of some members. -/
def accN (k p : Nat) (js : List Int) (j : Nat) (pre : List Nat) : Nat := bitsN (fun z => pre.any fun x => z == gMul k p x (en js j)) (gOrd k p)
theorem accN_nil (k p : Nat) (js : List Int) (j : Nat) : accN k p js j [] = 0 := by unfold accN; exact bitsN_none _
theorem accN_or {k p : Nat} {js : List Int} {j x : Nat} {pre : List Nat} (hg : gOk k p = true) : bits .or .i64 (accN k p js j pre : Int) (2 ^ gMul k p x (en js j)) = (accN k p js j (pre ++ [x]) : Nat) := by
  have hm : gMul k p x (en js j) < gOrd k p := gMul_lt hg
  have ho := gOrd_le hg
  have e2 : (2 : Int) ^ gMul k p x (en js j) = ((2 ^ gMul k p x (en js j) : Nat) : Int) := by push_cast; rfl
  have hp : 2 ^ gMul k p x (en js j) < 2 ^ 63 := Nat.pow_lt_pow_right (by decide) (by omega)
  unfold accN
  rw [e2, or_i64 _ _ (Nat.lt_trans (bitsN_lt62 hg _) (by decide)) hp]
  rw [← bitsN_one hm, bitsN_or]
  congr 1
  exact bitsN_congr fun z _ => by rw [List.any_append]; simp
theorem accN_bd {k p : Nat} {js : List Int} {j : Nat} {pre : List Nat} (hg : gOk k p = true) : accN k p js j pre < 2 ^ 62 := bitsN_lt62 hg _
theorem accN_done {k p : Nat} {js : List Int} {L j : Nat} (hg : gOk k p = true) (hj : j < js.length) : ((accN k p js j (mem (befN k p js L j js.length)) : Nat) : Int) = el (wgR k p js (L + 1)) j := by
  rw [el_wgR hj]
  congr 1
  unfold accN
  refine bitsN_congr fun z _ => ?_
  rw [Bool.eq_iff_iff, wgB_succ]
  simp only [List.any_eq_true, beq_iff_eq]
  constructor
  · rintro ⟨x, hx, e⟩
    have hb := (mem_iff.1 hx).2
    unfold befN at hb
    rw [bitsN_testBit] at hb
    simp only [Bool.and_eq_true, decide_eq_true_eq] at hb
    obtain ⟨hxn, hbf⟩ := hb
    unfold befF at hbf
    simp only [List.any_eq_true, List.mem_range, Bool.and_eq_true] at hbf
    obtain ⟨i, hi, hf, hw⟩ := hbf
    exact ⟨i, hi, hf, x, hxn, hw, e⟩
  · rintro ⟨i, hi, hf, x, hxn, hw, e⟩
    refine ⟨x, mem_iff.2 ⟨by have := gOrd_le hg; omega, ?_⟩, e⟩
    unfold befN
    rw [bitsN_testBit]
    simp only [Bool.and_eq_true, decide_eq_true_eq]
    refine ⟨hxn, ?_⟩
    unfold befF
    simp only [List.any_eq_true, List.mem_range, Bool.and_eq_true]
    exact ⟨i, hi, hf, hw⟩
theorem bef_lt {k p : Nat} {js : List Int} {L j t x : Nat} (h : x ∈ mem (befN k p js L j t)) : x < gOrd k p := by
  have hb := (mem_iff.1 h).2
  unfold befN at hb
  rw [bitsN_testBit] at hb
  simp only [Bool.and_eq_true, decide_eq_true_eq] at hb
  exact hb.1

/-- The list of longer words while it is made: the rows ahead of j are there, that of j has what pre tells, the others are 0. -/
structure QI (k p : Nat) (js : List Int) (L j : Nat) (pre : List Nat) (Q : List Int) : Prop where
  len : Q.length = js.length
  done : ∀ i, i < j → el Q i = el (wgR k p js (L + 1)) i
  cur : j < js.length → el Q j = (accN k p js j pre : Nat)
  rest : ∀ i, j < i → i < js.length → el Q i = 0
theorem QI.start (k p : Nat) (js : List Int) (L : Nat) : QI k p js L 0 [] (List.replicate js.length 0) := by
  have h0 : ∀ i, i < js.length → el (List.replicate js.length 0) i = 0 := fun i hi => by simp [el, hi]
  exact ⟨by simp, fun i hi => by omega, fun h => by rw [h0 0 h, accN_nil]; rfl, fun i _ hi => h0 i hi⟩
theorem QI.step {k p : Nat} {js : List Int} {L j x : Nat} {pre : List Nat} {Q : List Int} (h : QI k p js L j pre Q) (hj : j < js.length) : QI k p js L j (pre ++ [x]) (Q.set j (accN k p js j (pre ++ [x]) : Nat)) := by
  refine ⟨by rw [List.length_set, h.len], fun i hi => ?_, fun _ => el_set_same _ _ _ (by rw [h.len]; exact hj), fun i hi hi2 => ?_⟩
  · rw [el_set_ne _ _ _ _ (by omega)]; exact h.done i hi
  · rw [el_set_ne _ _ _ _ (by omega)]; exact h.rest i hi hi2
theorem QI.next {k p : Nat} {js : List Int} {L j : Nat} {Q : List Int} (hg : gOk k p = true) (hj : j < js.length) (h : QI k p js L j (mem (befN k p js L j js.length)) Q) : QI k p js L (j + 1) [] Q := by
  refine ⟨h.len, fun i hi => ?_, fun hj1 => ?_, fun i hi hi2 => h.rest i (by omega) hi2⟩
  · rcases Nat.lt_or_ge i j with hl | hl
    · exact h.done i hl
    · obtain rfl : i = j := by omega
      rw [h.cur hj, accN_done hg hj]
  · rw [accN_nil]; exact h.rest (j + 1) (by omega) hj1
theorem QI.all {k p : Nat} {js : List Int} {L : Nat} {Q : List Int} (h : QI k p js L js.length [] Q) : Q = wgR k p js (L + 1) :=
  list_ext_el (by rw [h.len, wgR_length]) fun i hi => h.done i (by rw [← h.len]; exact hi)

/-- The table of the products and last letters, flat. -/
def tbF (k p : Nat) (js : List Int) (L s : Nat) : Bool := wgB k p js L (s / js.length) (s % js.length)
/-- Where a pair of a product and a last letter leads with one more letter. -/
def tgt (k p : Nat) (js : List Int) (s t : Nat) : Nat := gMul k p (s / js.length) (en js t) * js.length + t
def innB (k p : Nat) (js : List Int) (g : Nat → Bool) (s : Nat) : Nat → Nat → Bool
  | 0 => g
  | t + 1 => if fol k p js (s % js.length) t then fun z => innB k p js g s t z || z == tgt k p js s t else innB k p js g s t
def outB (k p : Nat) (js : List Int) (f : Nat → Bool) : Nat → Nat → Bool
  | 0 => fun _ => false
  | s + 1 => if f s then innB k p js (outB k p js f s) s js.length else outB k p js f s
theorem innB_iff {k p : Nat} {js : List Int} {g : Nat → Bool} {s z : Nat} : ∀ t, innB k p js g s t z = true ↔ g z = true ∨ ∃ i, i < t ∧ fol k p js (s % js.length) i = true ∧ z = tgt k p js s i
  | 0 => by simp [innB]
  | t + 1 => by
    unfold innB
    by_cases h : fol k p js (s % js.length) t = true
    · rw [if_pos h]
      simp only [Bool.or_eq_true, beq_iff_eq, innB_iff t]
      constructor
      · rintro ((hg | ⟨i, hi, h1, h2⟩) | e)
        · exact .inl hg
        · exact .inr ⟨i, by omega, h1, h2⟩
        · exact .inr ⟨t, by omega, h, e⟩
      · rintro (hg | ⟨i, hi, h1, h2⟩)
        · exact .inl (.inl hg)
        · by_cases e : i = t
          · subst e; exact .inr h2
          · exact .inl (.inr ⟨i, by omega, h1, h2⟩)
    · rw [if_neg h, innB_iff t]
      constructor
      · rintro (hg | ⟨i, hi, h1, h2⟩)
        · exact .inl hg
        · exact .inr ⟨i, by omega, h1, h2⟩
      · rintro (hg | ⟨i, hi, h1, h2⟩)
        · exact .inl hg
        · by_cases e : i = t
          · subst e; exact absurd h1 h
          · exact .inr ⟨i, by omega, h1, h2⟩
theorem outB_iff {k p : Nat} {js : List Int} {f : Nat → Bool} {z : Nat} : ∀ s, outB k p js f s z = true ↔ ∃ q, q < s ∧ f q = true ∧ ∃ i, i < js.length ∧ fol k p js (q % js.length) i = true ∧ z = tgt k p js q i
  | 0 => by simp [outB]
  | s + 1 => by
    unfold outB
    by_cases h : f s = true
    · rw [if_pos h, innB_iff, outB_iff s]
      constructor
      · rintro (⟨q, hq, h1⟩ | ⟨i, hi, h1, h2⟩)
        · exact ⟨q, by omega, h1⟩
        · exact ⟨s, by omega, h, i, hi, h1, h2⟩
      · rintro ⟨q, hq, h1, i, hi, h2, h3⟩
        by_cases e : q = s
        · subst e; exact .inr ⟨i, hi, h2, h3⟩
        · exact .inl ⟨q, by omega, h1, i, hi, h2, h3⟩
    · rw [if_neg h, outB_iff s]
      constructor
      · rintro ⟨q, hq, h1⟩
        exact ⟨q, by omega, h1⟩
      · rintro ⟨q, hq, h1⟩
        by_cases e : q = s
        · subst e; exact absurd h1.1 h
        · exact ⟨q, by omega, h1⟩
theorem flat_div {x i m : Nat} (h : i < m) : (x * m + i) / m = x ∧ (x * m + i) % m = i := by
  have hm : 0 < m := by omega
  constructor
  · rw [Nat.mul_comm, Nat.mul_add_div hm, Nat.div_eq_of_lt h]; rfl
  · rw [Nat.mul_comm, Nat.mul_add_mod]; exact Nat.mod_eq_of_lt h
theorem flat_lt {x i m n : Nat} (hx : x < n) (h : i < m) : x * m + i < n * m := by
  have : (x + 1) * m ≤ n * m := Nat.mul_le_mul_right m hx
  rw [Nat.add_mul] at this
  omega
theorem tgt_lt {k p : Nat} {js : List Int} {s t : Nat} (h : gOk k p = true) (ht : t < js.length) : tgt k p js s t < gOrd k p * js.length := flat_lt (gMul_lt h) ht
theorem out_all {k p : Nat} {js : List Int} (L : Nat) : boolsF (gOrd k p * js.length) (outB k p js (tbF k p js L) (gOrd k p * js.length)) = boolsF (gOrd k p * js.length) (tbF k p js (L + 1)) := by
  unfold boolsF
  apply List.map_congr_left
  intro s hs
  rw [List.mem_range] at hs
  have hm : 0 < js.length := Nat.pos_of_ne_zero fun e => by rw [e] at hs; omega
  rw [Bool.eq_iff_iff, outB_iff]
  unfold tbF
  rw [wgB_succ]
  constructor
  · rintro ⟨q, hq, hf, i, hi, hfo, e⟩
    unfold tgt at e
    have hd := flat_div (x := gMul k p (q / js.length) (en js i)) hi
    rw [← e] at hd
    rw [hd.1, hd.2]
    exact ⟨q % js.length, Nat.mod_lt _ hm, hfo, q / js.length, Nat.div_lt_of_lt_mul (by rw [Nat.mul_comm]; exact hq), hf, rfl⟩
  · rintro ⟨j, hj, hfo, y, hy, hw, e⟩
    have hd := flat_div (x := y) hj
    refine ⟨y * js.length + j, flat_lt hy hj, by rw [hd.1, hd.2]; exact hw, s % js.length, Nat.mod_lt _ hm, by rw [hd.2]; exact hfo, ?_⟩
    unfold tgt
    rw [hd.1, ← e, Nat.mul_comm]
    exact (Nat.div_add_mod s js.length).symm
/-- The first table, of the first t letters. -/
def oneB (js : List Int) (t s : Nat) : Bool := (List.range t).any fun i => s == en js i * js.length + i
theorem oneB_succ (js : List Int) (t : Nat) : oneB js (t + 1) = fun s => oneB js t s || s == en js t * js.length + t := by
  funext s; unfold oneB; rw [List.range_succ, List.any_append]; simp
theorem oneB_zero (js : List Int) : oneB js 0 = fun _ => false := rfl
theorem one_all {k p : Nat} {js : List Int} : boolsF (gOrd k p * js.length) (oneB js js.length) = boolsF (gOrd k p * js.length) (tbF k p js 0) := by
  unfold boolsF
  apply List.map_congr_left
  intro s hs
  rw [List.mem_range] at hs
  have hm : 0 < js.length := Nat.pos_of_ne_zero fun e => by rw [e] at hs; omega
  rw [Bool.eq_iff_iff]
  unfold tbF oneB
  simp only [wgB, List.any_eq_true, List.mem_range, beq_iff_eq]
  constructor
  · rintro ⟨i, hi, e⟩
    have hd := flat_div (x := en js i) hi
    rw [← e] at hd
    rw [hd.1, hd.2]
  · intro e
    refine ⟨s % js.length, Nat.mod_lt _ hm, ?_⟩
    rw [← e, Nat.mul_comm]
    exact (Nat.div_add_mod s js.length).symm
theorem tbF_row {k p : Nat} {js : List Int} {L i : Nat} (hi : i < js.length) : tbF k p js L i = wgB k p js L 0 i := by
  unfold tbF; rw [Nat.div_eq_of_lt hi, Nat.mod_eq_of_lt hi]
end Go.Proofs.YtklgimikdnokcaaDoor
