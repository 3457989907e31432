/-
  The number of digits of a row: both programs' counts.
-/
import Derived.Test.YtkmpapphagakoaaDoorOnes
import Derived.Test.YtkmpapphagakoaaDoorIsB
import Derived.Test.YtkmpapphagakoaaDoorInts
import Derived.Deep.RegionHeld3
namespace Go.Proofs.YtkmpapphagakoaaDoor
open Go.RowKit

set_option maxHeartbeats 400000 in
theorem countOf_any (z : Int) (w : World) (h0 : 0 ≤ z) (h1 : z ≤ 9223372036854775807) :
    Calls Tryd.prog 58 #[.int .i64 z] w fun e w' => e = .returned (.int .i64 (pc z.toNat)) ∧ w = w' := by
  obtain ⟨x, rfl⟩ := Int.eq_ofNat_of_zero_le h0
  have hu : IntKind.u64.wrap (x : Int) = x := by rw [IntKind.wrap_u64]; omega
  have hc := ones_any x (by omega) w
  rw [Int.toNat_natCast]
  go_enter Tryd.func58, Tryd.ntmps58
  go_wp2_with (go_at_call 83; refine hc.mono ?_; rintro e w' ⟨rfl, rfl⟩)
  go_ret
  exact ⟨rfl, rfl⟩

theorem pcF_zero : ∀ f, pcF f 0 = 0
  | 0 => rfl
  | f + 1 => by rw [pcF, pcF_zero f]
theorem pcF_le : ∀ f x, pcF f x ≤ f
  | 0, _ => Nat.le_refl _
  | f + 1, x => by have := pcF_le f (x / 2); rw [pcF]; omega
theorem pc_le (x : Nat) : pc x ≤ 64 := pcF_le 64 x

set_option maxHeartbeats 400000 in
theorem bits_any (z : Int) (w : World) (h0 : 0 ≤ z) (h1 : z ≤ 9223372036854775807) :
    Calls Tryd.prog 82 #[.int .i64 z] w fun e w' => e = .returned (.int .i64 (pc z.toNat)) ∧ w = w' := by
  obtain ⟨x, rfl⟩ := Int.eq_ofNat_of_zero_le h0
  rw [Int.toNat_natCast]
  go_enter Tryd.func82, Tryd.ntmps82
  go_wp2
  go_loop [0, 3] (fun r c => ∃ k y : Nat, k ≤ 63 ∧ y ≤ x ∧ Hid (y = x / 2 ^ k) ∧ r = .int .i64 y ∧ ∃ d : Nat, d ≤ k ∧ Hid (d = pcF k x) ∧ c = .int .i64 d) (fun r _ => (intOf r).toNat)
  case atStart => exact ⟨0, x, by omega, Nat.le_refl _, by show _ = _; simp, rfl, 0, by omega, rfl, rfl⟩
  case round =>
    obtain ⟨k, y, hk, hyx, HY, rfl, d, hd, HD, rfl⟩ := hrel
    by_cases hy : (0 : Int) < y
    · have hk63 : k < 63 := by
        have h2 := HY.out
        refine Nat.lt_of_not_le fun hle => ?_
        have h3 : x < 2 ^ k := Nat.lt_of_lt_of_le (show x < 2 ^ 63 by omega) (Nat.pow_le_pow_right (by decide) hle)
        rw [Nat.div_eq_of_lt h3] at h2
        omega
      have HY2 : Hid (y / 2 = x / 2 ^ (k + 1)) := by show _ = _; rw [HY.out, Nat.pow_succ, Nat.div_div_eq_div_mul]
      have HD2 : Hid (d + y % 2 = pcF (k + 1) x) := by show _ = _; rw [pcF_add k 1 x, ← HY.out, ← HD.out]; simp [pcF]
      go_wp2
      go_round
      case rel => exact ⟨k + 1, y / 2, by omega, by omega, HY2, by go_num, d + y % 2, by omega, HD2, by go_num⟩
      case measure => simp [intOf]; omega
    · have hy0 : y = 0 := by omega
      subst hy0
      have e : pc x = d := by
        unfold pc
        rw [HD.out, show (64 : Nat) = k + (64 - k) from by omega, pcF_add k (64 - k) x, ← HY.out, pcF_zero]; omega
      have E := Lib.hid e; clear e
      go_wp2
      go_ret
      exact ⟨ret_int (by rw [E.out]), rfl⟩

/-- The degree of a vertex. -/
def dg (zs : List Int) (v : Nat) : Nat := pc (el zs v).toNat
def same (zs : List Int) (k : Nat) : Bool := (List.range k).all fun v => dg zs v == dg zs 0
theorem same_succ (zs : List Int) (k : Nat) : same zs (k + 1) = (same zs k && (dg zs k == dg zs 0)) := by
  unfold same; rw [List.range_succ, List.all_append]; simp
theorem same_no {zs : List Int} {v : Nat} (hv : v < zs.length) (h : dg zs v ≠ dg zs 0) : same zs zs.length = false := by
  cases e : same zs zs.length with
  | false => rfl
  | true => exact absurd (eq_of_beq (List.all_eq_true.1 e v (List.mem_range.2 hv))) h
/-- The rows of a graph: what its validity gives. -/
theorem isG_parts {n : Int} {zs : List Int} (h : isG n zs = true) : 1 ≤ n ∧ n ≤ 62 ∧ (zs.length : Int) = n ∧ rowsOk n zs zs.length = true ∧ symTo zs zs.length = true := by
  unfold isG at h; simp only [Bool.and_eq_true, decide_eq_true_eq] at h
  exact ⟨h.1.1.1.1, h.1.1.1.2, h.1.1.2, h.1.2, h.2⟩
theorem isG_row_ok {n : Int} {zs : List Int} (h : isG n zs = true) (i : Nat) (hi : i < zs.length) : 0 ≤ el zs i ∧ el zs i ≤ 9223372036854775807 := by
  obtain ⟨h1, h2, _, h4, _⟩ := isG_parts h
  have a := rowOk_ge (rowsOk_at h4 hi)
  have b := rowOk_le (rowsOk_at h4 hi)
  have := pow_bounds n.toNat (by omega)
  exact ⟨a, by omega⟩

set_option maxHeartbeats 400000 in
theorem degree_rows (n : Int) (b off cap : Nat) (zs : List Int) (a : Int) (w : World) (hb : b < w.heap.size) (hc : Cells w b off zs) (ha0 : 0 ≤ a) (ha : a < zs.length) (hz : ∀ i, i < zs.length → 0 ≤ el zs i ∧ el zs i ≤ 9223372036854775807) :
    Calls Tryd.prog 57 #[.agg #[.int .i64 n, .slice (some ⟨b, off, none⟩) zs.length cap], .int .i64 a] w fun e w' => e = .returned (.int .i64 (dg zs a.toNat)) ∧ Below w.heap.size w w' := by
  have hk := hz a.toNat (by omega)
  have h := hc a.toNat (by omega)
  have hcc := fun W => bits_any (el zs a.toNat) W hk.1 hk.2
  clear hz hc hk
  go_enter Tryd.func57, Tryd.ntmps57
  go_wp2_with (go_at_call 82; refine (hcc _).mono ?_; rintro e w' ⟨rfl, rfl⟩)
  go_ret
  exact ⟨rfl, (Below.refl _ _).alloc (Nat.le_refl _) _⟩

theorem nat_of_bne {a b : Nat} (h : (((a : Nat) : Int) != ((b : Nat) : Int)) = false) : a = b := by
  have : ((a : Nat) : Int) = ((b : Nat) : Int) := by simpa using h
  omega
theorem nat_ne_of_bne {a b : Nat} (h : (((a : Nat) : Int) != ((b : Nat) : Int)) = true) : a ≠ b := fun e => by
  subst e; simp at h
attribute [irreducible] dg
/-- What the model's count of a regular degree answers. -/
def regV (zs : List Int) : Int := if same zs zs.length then (dg zs 0 : Int) else -1
theorem regV_yes {zs : List Int} (h : same zs zs.length = true) : regV zs = (dg zs 0 : Int) := by simp [regV, h]
theorem regV_no {zs : List Int} (h : same zs zs.length = false) : regV zs = -1 := by simp [regV, h]

set_option maxHeartbeats 800000 in
theorem regular_some (n : Int) (b off cap : Nat) (zs : List Int) (w : World) (hb : b < w.heap.size) (hc : Cells w b off zs) (hg : isG n zs = true) :
    Calls Tryd.prog 63 #[.agg #[.int .i64 n, .slice (some ⟨b, off, none⟩) zs.length cap]] w fun e w' => e = .returned (.int .i64 (regV zs)) ∧ Below w.heap.size w w' := by
  obtain ⟨h1a, h1b, h3, -, -⟩ := isG_parts hg
  have HZ := Lib.hid (isG_row_ok hg); clear hg
  have hc' := Lib.hid hc; clear hc
  have H2 := Lib.hid h3
  have hlp : (0 : Int) < zs.length := by omega
  clear h3
  go_enter Tryd.func63, Tryd.ntmps63
  go_wp2
  go_loopw [3] (fun i wr => ∃ v : Nat, 1 ≤ v ∧ v ≤ zs.length ∧ i = .int .i64 v ∧ same zs v = true ∧ Below (w.heap.size + 1) (w.alloc (.cells #[.int .i64 n, .slice (some ⟨b, off, none⟩) zs.length cap] 27)) wr) (fun i _ => zs.length - (intOf i).toNat)
  case atStart => exact ⟨1, Nat.le_refl _, by omega, rfl, by rw [same_succ]; simp [same], Below.refl _ _⟩
  case round =>
    obtain ⟨v, hv1, hv, rfl, hsm, hB⟩ := hrel
    have HS := Lib.hid hsm; clear hsm
    have G0 := (GBox.new (n := n) (cap := cap) hb hc'.out).below hB
    have b0 := G0.b0
    have b1 := G0.b1
    by_cases hlt : (v : Int) < n
    · have hvl : v < zs.length := by have := H2.out; omega
      have hvl' : (v : Int) < zs.length := by omega
      have hv0 : (0 : Int) ≤ v := by omega
      have GD : GBox wr.drew w.heap.size n b off cap zs := G0.drewN 1
      have BD : Below (w.heap.size + 1) (w.alloc (.cells #[.int .i64 n, .slice (some ⟨b, off, none⟩) zs.length cap] 27)) wr.drew := hB.drew
      go_wp2_with fail
      go_region_held3 (fun w' => w'.cell? ⟨w.heap.size, 0, none⟩ = some (.int .i64 n) ∧ w'.cell? ⟨w.heap.size, 1, none⟩ = some (.slice (some ⟨b, off, none⟩) zs.length cap))
        (go_keep)
        (first | (go_at_call 57; refine (degree_rows n b off cap zs _ _ (GBox.lb (by assumption)) (GBox.cells (H := w.heap.size) (n := n) (cap := cap) (by assumption)) (by omega) (by omega) HZ.out).mono ?_; rintro e w2 ⟨rfl, hb2⟩; have hb3 := hb2.mono (GBox.lt (H := w.heap.size) (n := n) (b := b) (off := off) (cap := cap) (zs := zs) (by assumption)); have G2 : GBox w2 w.heap.size n b off cap zs := GBox.below (by assumption) hb3; have k0 := G2.b0; have k1 := G2.b1; have D2 : Below (w.heap.size + 1) (w.alloc (.cells #[.int .i64 n, .slice (some ⟨b, off, none⟩) zs.length cap] 27)) w2 := Below.trans (by assumption) hb3))
      generalize hr : (((dg zs v : Nat) : Int) != ((dg zs 0 : Nat) : Int)) = r
      have HRR := Lib.hid hr; clear hr
      cases r
      · have HO : Hid (same zs (v + 1) = true) := by
          have e : dg zs v = dg zs 0 := nat_of_bne HRR.out
          show _ = _; rw [same_succ, HS.out, e]; simp
        go_wp2
        go_roundw
        case rel => exact ⟨v + 1, by omega, by omega, by go_num, HO.out, D2⟩
        case measure => simp [intOf]; omega
      · have e : same zs zs.length = false := same_no hvl (nat_ne_of_bne HRR.out)
        have E := Lib.hid e; clear e
        go_wp2
        go_ret
        exact ⟨ret_int (regV_no E.out).symm, ((Below.refl _ _).alloc (Nat.le_refl _) _).trans (D2.mono (by simp))⟩
    · have hvl : v = zs.length := by have := H2.out; omega
      have HS' : Hid (same zs zs.length = true) := by show _ = _; rw [← hvl]; exact HS.out
      go_wp2_with (go_at_call 57; refine (degree_rows n b off cap zs 0 _ G0.lb G0.cells (by omega) hlp HZ.out).mono ?_; rintro e w2 ⟨rfl, hb2⟩)
      go_ret
      exact ⟨ret_int (regV_yes HS'.out).symm, ((Below.refl _ _).alloc (Nat.le_refl _) _).trans ((hB.trans (hb2.mono G0.lt)).mono (by simp))⟩

/-- The answer of RegularDegree. -/
def regD (n : Int) (zs : List Int) : Int := if isG n zs then (if same zs zs.length then (dg zs 0 : Int) else 0) else 0
def regC (n : Int) (zs : List Int) : Int := if isG n zs then (if same zs zs.length then 0 else 5) else 1

theorem sl_some {w : World} {v : Value} {zs : List Int} (h : Sl w v zs) (h0 : 0 < zs.length) : ∃ b off cap, v = .slice (some ⟨b, off, none⟩) zs.length cap ∧ b < w.heap.size ∧ Cells w b off zs := by
  rcases h with ⟨_, _, _, rfl⟩ | h
  · simp at h0
  · exact h

set_option maxHeartbeats 800000 in
theorem specReg_any (n : Int) (v : Value) (zs : List Int) (w : World) (h : Sl w v zs) (hl : zs.length ≤ 9223372036854775807) :
    Calls Tryd.prog 28 #[.agg #[.int .i64 n, v]] w fun e w' => e = .returned (.tuple #[.int .i64 (regD n zs), .int .i64 (regC n zs)]) ∧ Below w.heap.size w w' := by
  have D0 : Below w.heap.size w (w.alloc (.cells #[.int .i64 n, v] 27)) := (Below.refl _ _).alloc (Nat.le_refl _) _
  have his := l01Is_any n v zs _ (h.below D0) hl
  have HB := Lib.hid (World.alloc_heap_new w (.cells #[.int .i64 n, v] 27))
  cases hg : isG n zs
  · have e1 : regD n zs = 0 := by simp [regD, hg]
    have e2 : regC n zs = 1 := by simp [regC, hg]
    rw [e1, e2]; rw [hg] at his
    clear e1 e2 hg h
    go_enter Tryd.func28, Tryd.ntmps28
    go_wp2_with (go_at_call 52; refine his.mono ?_; rintro e w1 ⟨rfl, hb1⟩)
    go_ret2
    exact ⟨rfl, D0.trans (hb1.mono (by simp))⟩
  · obtain ⟨b, off, cap, rfl, hb, hc⟩ := sl_some h (by have := (isG_parts hg).2.2.1; have := (isG_parts hg).1; omega)
    have hreg := fun W (hW : Below (w.alloc (.cells #[.int .i64 n, .slice (some ⟨b, off, none⟩) zs.length cap] 27)).heap.size (w.alloc (.cells #[.int .i64 n, .slice (some ⟨b, off, none⟩) zs.length cap] 27)) W) => regular_some n b off cap zs W (Nat.lt_of_lt_of_le hb (D0.trans (hW.mono (by simp))).size) (hc.below (D0.trans (hW.mono (by simp))) hb) hg
    rw [hg] at his
    cases hsm : same zs zs.length
    · have e1 : regD n zs = 0 := by simp [regD, hg, hsm]
      have e2 : regC n zs = 5 := by simp [regC, hg, hsm]
      rw [e1, e2]; rw [regV_no hsm] at hreg
      have HREG := Lib.hid hreg
      clear e1 e2 hg h hsm hc hreg
      go_enter Tryd.func28, Tryd.ntmps28
      go_wp2_with (first | (go_at_call 52; refine his.mono ?_; rintro e w1 ⟨rfl, hb1⟩; obtain ⟨a0, a1, _, _⟩ := two_cells ((hb1.block w.heap.size (by simp)).trans HB.out)) | (go_at_call 63; refine (HREG.out w1 hb1).mono ?_; rintro e w2 ⟨rfl, hb2⟩))
      go_ret2
      exact ⟨rfl, (D0.trans (hb1.mono (by simp))).trans (hb2.mono (by have := hb1.size; simp at this; omega))⟩
    · have e1 : regD n zs = (dg zs 0 : Int) := by simp [regD, hg, hsm]
      have e2 : regC n zs = 0 := by simp [regC, hg, hsm]
      rw [e1, e2]; rw [regV_yes hsm] at hreg
      have HREG := Lib.hid hreg
      have hd0 : (0 : Int) ≤ (dg zs 0 : Int) := by omega
      clear e1 e2 hg h hsm hc hreg
      go_enter Tryd.func28, Tryd.ntmps28
      go_wp2_with (first | (go_at_call 52; refine his.mono ?_; rintro e w1 ⟨rfl, hb1⟩; obtain ⟨a0, a1, _, _⟩ := two_cells ((hb1.block w.heap.size (by simp)).trans HB.out)) | (go_at_call 63; refine (HREG.out w1 hb1).mono ?_; rintro e w2 ⟨rfl, hb2⟩))
      go_ret2
      exact ⟨rfl, (D0.trans (hb1.mono (by simp))).trans (hb2.mono (by have := hb1.size; simp at this; omega))⟩
end Go.Proofs.YtkmpapphagakoaaDoor
