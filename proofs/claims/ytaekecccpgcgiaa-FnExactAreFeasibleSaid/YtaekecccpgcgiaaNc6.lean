/-
  spec.l06Numbers and spec.NumbersAt.
-/
import Derived.Test.YtaekecccpgcgiaaNb6
namespace Go.Proofs.Ytaekecccpgcgiaa
open Go.RowKit

/-- A list of numbers and a code, the list in memory of its own from block B on. -/
def LRes (B : Nat) (L : List Int) (c : Int) (e : Ending) (w' : World) : Prop := ∃ u, e = .returned (.tuple #[u, .int .i64 c]) ∧ Own w' B u L
theorem row_slice {w : World} {B : Nat} {u : Value} {L : List Int} (h : Own w B u L) : ∃ a l c, u = .slice a l c := by
  rcases h.form with ⟨rfl, _⟩ | ⟨g, cap, rfl, _⟩
  · exact ⟨_, _, _, rfl⟩
  · exact ⟨_, _, _, rfl⟩
theorem Own.cellAt {w : World} {B g cap : Nat} {L : List Int} (h : Own w B (.slice (some ⟨g, 0, none⟩) L.length cap) L) {i : Nat} (hi : i < L.length) : w.cell? ⟨g, i, none⟩ = some (.int .i64 (el L i)) :=
  (World.ownsRow.cellAt h i (by omega)).trans (map_at L i hi)
theorem Own.some {w : World} {B : Nat} {u : Value} {L : List Int} (h : Own w B u L) (h0 : 0 < L.length) : ∃ g cap, u = .slice (Option.some ⟨g, 0, none⟩) L.length cap ∧ B ≤ g ∧ g < w.heap.size := by
  rcases h.form with ⟨_, rfl⟩ | ⟨g, cap, h1, h2, h3⟩
  · simp at h0
  · exact ⟨g, cap, h1, h2, h3⟩
theorem own_one (w : World) (z : Int) : Own (w.alloc (.cells #[.int .i64 z] 2)) w.heap.size (.slice (Option.some ⟨w.heap.size, 0, none⟩) 1 1) [z] := by
  have := Own.of_blk (B := w.heap.size) (Blk.new w [z]) (Nat.le_refl _) (by unfold maxLen; simp)
  exact this

set_option maxRecDepth 100000 in
set_option maxHeartbeats 3200000 in
theorem l06Numbers_some (b1 o1 c1 b2 o2 c2 n : Nat) (xs ys : List Int) (w : World) (h1 : xs.length = n) (h2 : ys.length = n) (hb1 : b1 < w.heap.size) (hb2 : b2 < w.heap.size) (hc1 : Cells w b1 o1 xs) (hc2 : Cells w b2 o2 ys) (hn : n ≤ 10) (ok1 : numsOk 62 xs n = true) (ok2 : numsOk 62 ys n = true) :
    Calls Try.prog 38 #[.slice (some ⟨b1, o1, none⟩) n c1, .slice (some ⟨b2, o2, none⟩) n c2] w fun e w' => (∃ u, e = .returned (.tuple #[u, .bool (nmW xs ys n)]) ∧ Own w' w.heap.size u (nmQ xs ys n)) ∧ Below w.heap.size w w' := by
  obtain ⟨i0, hi, hz0, hz1, hz2⟩ := info_parts mk_info
  have HI := Lib.hid hi; have HI0 := Lib.hid hz0; have HI1 := Lib.hid hz1; have HI2 := Lib.hid hz2
  have HC1 := Lib.hid hc1; have HC2 := Lib.hid hc2; have H1 := Lib.hid h1; have H2 := Lib.hid h2
  have HP : Hid (∀ k, k < n → 0 ≤ nmK xs ys k ∧ nmK xs ys k ≤ 839299365868340224 ∧ 0 ≤ nmK xs ys k * el xs k ∧ nmK xs ys k * el xs k ≤ 839299365868340224) := fun k hk =>
    nmK_prod xs ys k (by omega) (fun i hi => numsOk_at ok1 (by omega)) (fun i hi => numsOk_at ok2 (by omega))
  have HY : Hid (∀ k, k < n → 1 ≤ el ys k ∧ el ys k ≤ 62) := fun k hk => numsOk_at ok2 hk
  have HO1 := Lib.hid (own_one w 1)
  clear hc1 hc2 h1 h2 ok1 ok2 hi hz0 hz1 hz2
  go_enter Try.func38, Try.ntmps38
  go_wp2_with fail
  go_loopw [6, 7] (fun u i wr => ∃ k : Nat, k ≤ n ∧ i = .int .i64 k ∧ Hid (nmW xs ys k = true) ∧ Hid (Own wr w.heap.size u (nmL xs ys k)) ∧ Below w.heap.size w wr) (fun _ i _ => n - (intOf i).toNat)
  case atStart => exact ⟨0, Nat.zero_le _, rfl, rfl, HO1, (Below.refl _ _).alloc (Nat.le_refl _) _⟩
  case round =>
    obtain ⟨k, hk, rfl, HW, HO, hB⟩ := hrel
    by_cases hlt : (k : Int) < n
    · have hkl : k < n := by omega
      have hk0 : (0 : Int) ≤ k := by omega
      have hll := nmL_length xs ys k
      obtain ⟨g, cap, rfl, hg0, hg1⟩ := HO.out.some (by omega)
      have cg : wr.cell? ⟨g, k, none⟩ = some (.int .i64 (nmK xs ys k)) := by rw [← nmL_at xs ys k k (Nat.le_refl _)]; exact HO.out.cellAt (by omega)
      have cx : wr.cell? ⟨b1, o1 + k, none⟩ = some (.int .i64 (el xs k)) := (hB.cell (p := ⟨b1, o1 + k, none⟩) hb1).trans (HC1.out k (by have := H1.out; omega))
      have cy : wr.cell? ⟨b2, o2 + k, none⟩ = some (.int .i64 (el ys k)) := (hB.cell (p := ⟨b2, o2 + k, none⟩) hb2).trans (HC2.out k (by have := H2.out; omega))
      obtain ⟨p0, p1, p2, p3⟩ := HP.out k hkl
      obtain ⟨y0, y1⟩ := HY.out k hkl
      have hs := nmW_succ xs ys k
      have hno := fun h => nmW_no (b := xs) (c := ys) (k := n) (i := k) hkl h
      have hKs : nmK xs ys (k + 1) = nmK xs ys k * el xs k / el ys k := rfl
      have hLs := nmL_succ xs ys k
      have hRd : nmR xs ys k = ((nmK xs ys k * el xs k) % el ys k == 0) := rfl
      obtain ⟨LL, hLL⟩ : ∃ LL, LL = nmL xs ys k := ⟨_, rfl⟩
      rw [← hLL] at HO hll hLs ⊢
      rw [hKs] at hLs
      obtain ⟨z, hz⟩ : ∃ z, z = nmK xs ys k := ⟨_, rfl⟩
      obtain ⟨x, hx⟩ : ∃ x, x = el xs k := ⟨_, rfl⟩
      obtain ⟨y, hy⟩ : ∃ y, y = el ys k := ⟨_, rfl⟩
      rw [← hz] at cg p0 p1 p2 p3 hLs hRd; rw [← hx] at cx p2 p3 hLs hRd; rw [← hy] at cy y0 y1 hLs hRd
      have hll1 : (k : Int) < (LL.length : Int) := by omega
      have hlt11 : LL.length ≤ 11 := by omega
      have HLL2 := Lib.hid hll
      clear hz hx hy hLL hKs hll
      obtain ⟨P, hP⟩ : ∃ P, P = z * x := ⟨_, rfl⟩
      rw [← hP] at p2 p3 hLs hRd
      have HPP := Lib.hid hP.symm
      have hwP : IntKind.i64.wrap (z * x) = P := by rw [← hP]; exact IntWalk.i64_in _ (by omega)
      clear hP
      have hne0 : ¬ y = 0 := by omega
      have hq0 : 0 ≤ P / y := Int.ediv_nonneg p2 (by omega)
      have hq1 : P / y ≤ P := Int.ediv_le_self _ p2
      cases hr : nmR xs ys k with
      | true =>
        have HW2 : Hid (nmW xs ys (k + 1) = true) := by show _ = _; rw [hs, HW.out, hr]; rfl
        rw [hr] at hRd
        have hrem : (P % y != 0) = false := by
          have : (P % y == 0) = true := hRd.symm
          rw [bne, this]; rfl
        have HLS := Lib.hid hLs
        clear hr hs hno hRd hLs
        go_wp2_with fail
        go_quiet (fail)
        generalize hwd' : wr.drewN _ = wd
        have hbd : Below wr.heap.size wr wd := by rw [← hwd']; exact drewN_below (Below.refl _ _) _
        have cy2 : wd.cell? ⟨b2, o2 + k, none⟩ = some (.int .i64 y) := (hbd.cell (p := ⟨b2, o2 + k, none⟩) (Nat.lt_of_lt_of_le hb2 hB.size)).trans cy
        have HO2 := Lib.hid (HO.out.below hbd)
        have hB2 := hB.trans (hbd.mono hB.size)
        have s2 := hB2.size
        clear hwd' hbd cg cx cy HO hB
        go_wp2_with (at_builtin; refine wpList_append_own _ rfl _ _ 25 rfl w.heap.size 2 i0 (.int .i64 0) 1 8 Try.underlying25 HI.out HI0.out HI1.out HI2.out rfl (by decide) _ _ _ rfl (World.ownsRow.alloc HO2.out _) ⟨wd.heap.size, 0, none⟩ 1 1 [.int .i64 (P / y)] rfl rfl (cell_one_new _ _ _) (by simp [Value.oneCell']) (by unfold maxLen; omega) (by omega) (by simp; omega) ?_; intro u' w3 hown3 hgr3 _)
        have HN : Hid (Own w3 w.heap.size u' (nmL xs ys (k + 1))) := by
          show World.ownsRow _ _ _ _ _ _ _
          rw [HLS.out, List.map_append, List.length_append]
          exact hown3
        have E3 := (hB2.alloc s2 _).grown hgr3 (by simp; omega) (fun k e => (World.ownsRow.lt HO2.out k e).1)
        clear hown3 hgr3 HO2
        go_wp2
        go_roundw
        case rel => exact ⟨k + 1, by omega, by go_num, HW2, HN, E3⟩
        case measure => simp [intOf]; omega
      | false =>
        have HNO := Lib.hid (hno hr)
        rw [hr] at hRd
        have hrem : (P % y != 0) = true := by
          have : (P % y == 0) = false := hRd.symm
          rw [bne, this]; rfl
        clear hr hs hno hRd hLs
        go_wp2_with fail
        go_quiet (fail)
        generalize hwd' : wr.drewN _ = wd
        have hbd : Below wr.heap.size wr wd := by rw [← hwd']; exact drewN_below (Below.refl _ _) _
        have cy2 : wd.cell? ⟨b2, o2 + k, none⟩ = some (.int .i64 y) := (hbd.cell (p := ⟨b2, o2 + k, none⟩) (Nat.lt_of_lt_of_le hb2 hB.size)).trans cy
        have hB2 := hB.trans (hbd.mono hB.size)
        clear hwd' hbd cg cx cy HO hB
        go_wp2_with fail
        go_ret2
        have HNN := HNO.out
        exact ⟨⟨_, by rw [HNN]; rfl, by rw [nmQ_no HNN]; exact Own.nil _ _⟩, hB2⟩
    · obtain rfl : k = n := by omega
      obtain ⟨a, l, c, rfl⟩ := row_slice HO.out
      go_wp2_with fail
      go_ret2
      have HWW := HW.out
      exact ⟨⟨_, by rw [HWW]; rfl, by rw [nmQ_yes HWW]; exact HO.out⟩, hB⟩

theorem twoOk_far {b c : List Int} (h : twoOk b c = false) : NmL b c = [] ∧ NmC b c = 2 := by unfold NmL NmC; rw [h]; simp

set_option maxHeartbeats 1600000 in
theorem specNm_any (v1 v2 : Value) (xs ys : List Int) (w : World) (h1 : Sl w v1 xs) (h2 : Sl w v2 ys) :
    Calls Try.prog 16 #[v1, v2] w fun e w' => LRes w.heap.size (NmL xs ys) (NmC xs ys) e w' ∧ Below w.heap.size w w' := by
  have hl := l06Lists_any v1 v2 xs ys w h1 h2
  cases hok : twoOk xs ys with
  | false =>
    obtain ⟨e1, e2⟩ := twoOk_far hok
    rw [e1, e2]
    rw [hok] at hl
    have HL := Lib.hid hl
    rw [slForm h1, slForm h2] at HL ⊢
    clear h1 h2 hl hok e1 e2
    go_enter Try.func16, Try.ntmps16
    go_wp2_with fail
    refine HL.out.mono ?_
    rintro e w' ⟨rfl, rfl⟩
    go_wp2_with fail
    go_ret2
    exact ⟨⟨_, rfl, Own.nil _ _⟩, Below.refl _ _⟩
  | true =>
    obtain ⟨k1, k2, k3, k4, k5⟩ := (twoOk_iff _ _).1 hok
    rcases h1 with ⟨_, _, _, rfl⟩ | ⟨b1, o1, c1, rfl, hb1, hc1⟩
    · simp at k2
    rcases h2 with ⟨_, _, _, rfl⟩ | ⟨b2, o2, c2, rfl, hb2, hc2⟩
    · have : xs.length = 0 := k1; omega
    have hn := l06Numbers_some b1 o1 c1 b2 o2 c2 xs.length xs ys w rfl k1.symm hb1 hb2 hc1 hc2 k3 k4 (by rw [k1]; exact k5)
    rw [← k1] at hl ⊢
    rw [hok] at hl
    have HL := Lib.hid hl
    unfold NmL NmC
    rw [hok]
    rw [if_pos rfl, if_pos rfl]
    cases hW : nmW xs ys xs.length with
    | false =>
      rw [hW] at hn
      rw [nmQ_no hW] at hn ⊢
      rw [nmD_no hW]
      have HN := Lib.hid hn
      clear hl hn hok hc1 hc2 k1 k2 k3 k4 k5 hW
      go_enter Try.func16, Try.ntmps16
      go_wp2_with fail
      refine HL.out.mono ?_
      rintro e w' ⟨rfl, rfl⟩
      go_wp2_with fail
      refine HN.out.mono ?_
      rintro e w1 ⟨⟨u, rfl, hO⟩, hb⟩
      go_wp2_with fail
      go_ret2
      exact ⟨⟨_, rfl, Own.nil _ _⟩, hb⟩
    | true =>
      rw [hW] at hn
      rw [nmD_yes hW]
      have HN := Lib.hid hn
      clear hl hn hok hc1 hc2 k1 k2 k3 k4 k5 hW
      go_enter Try.func16, Try.ntmps16
      go_wp2_with fail
      refine HL.out.mono ?_
      rintro e w' ⟨rfl, rfl⟩
      go_wp2_with fail
      refine HN.out.mono ?_
      rintro e w1 ⟨⟨u, rfl, hO⟩, hb⟩
      go_wp2_with fail
      go_ret2
      exact ⟨⟨_, rfl, hO⟩, hb⟩
end Go.Proofs.Ytaekecccpgcgiaa
