/-
  spec.CirculantGraph. (A plain seat.)
-/
import Derived.Test.YtaekecccpgcgiaaCm
import Derived.Test.YtaekecccpgcgiaaJs
namespace Go.Proofs.Ytaekecccpgcgiaa
set_option maxRecDepth 100000
open Go.RowKit

/-- What a circulant graph is asked for. -/
def cirOk (n : Int) (js : List Int) : Bool := decide (1 ≤ n) && decide (n ≤ 62) && decide (js.length ≤ 62) && jumpsOk n js js.length
theorem cirOk_iff (n : Int) (js : List Int) : cirOk n js = true ↔ 1 ≤ n ∧ n ≤ 62 ∧ js.length ≤ 62 ∧ jumpsOk n js js.length = true := by
  unfold cirOk; simp [and_assoc]
def CirN (n : Int) (js : List Int) : Int := if cirOk n js then n else 0
def CirL (n : Int) (js : List Int) : List Int := if cirOk n js then rowsF n.toNat (adjS (cirS n.toNat js n.toNat)) else []
def CirC (n : Int) (js : List Int) : Int := if cirOk n js then 0 else 2
theorem CirL_length (n : Int) (js : List Int) : (CirL n js).length ≤ 62 := by
  unfold CirL; split
  · rename_i h; have := (cirOk_iff n js).1 h; rw [rowsF_length]; omega
  · simp
theorem Cir_no {n : Int} {js : List Int} (h : cirOk n js = false) : CirN n js = 0 ∧ CirL n js = [] ∧ CirC n js = 2 := by simp [CirN, CirL, CirC, h]
theorem Cir_yes {n : Nat} {js : List Int} (h : cirOk n js = true) : CirN n js = n ∧ CirL n js = rowsF n (adjS (cirS n js n)) ∧ CirC n js = 0 := by simp [CirN, CirL, CirC, h]

set_option maxHeartbeats 800000 in
theorem specCir_far (n : Int) (a : Option Addr) (len cap : Nat) (w : World) (h : ¬ (1 ≤ n ∧ n ≤ 62) ∨ 62 < len) :
    Calls Try.prog 26 #[.int .i64 n, .slice a len cap] w fun e w' => GRes w.heap.size 0 [] 2 e w' ∧ Below w.heap.size w w' := by
  have D0 : Below w.heap.size w (w.alloc (.cells #[.int .i64 0, .slice none 0 0] 35)) := (Below.refl _ _).alloc (Nat.le_refl _) _
  have RB := Lib.hid (World.alloc_heap_new w (.cells #[.int .i64 0, .slice none 0 0] 35))
  obtain ⟨W, hW⟩ : ∃ W, W = w.alloc (.cells #[.int .i64 0, .slice none 0 0] 35) := ⟨_, rfl⟩
  rw [← hW] at D0 RB
  have hc : (¬ 1 ≤ n) ∨ (1 ≤ n ∧ ¬ n ≤ 62) ∨ (1 ≤ n ∧ n ≤ 62 ∧ 62 < len) := by omega
  clear h
  rcases hc with h1 | ⟨h1, h2⟩ | ⟨h1, h2, h3⟩
  all_goals
    go_enter Try.func26, Try.ntmps26
    go_wp2_with (go_at_call 28; refine (in_any _ _ _ _).mono ?_; rintro e w' ⟨rfl, rfl⟩)
    rw [← hW]
    refine bodyPost_ret (v := .tuple #[.agg #[.int .i64 0, .slice none 0 0], .int .i64 2]) (results_cell2 (p := 4) (u := 5) (ty := 35) rfl _ _ w.heap.size 35 _ (0, 0) _ rfl RB.out Try.underlying35 rfl (by exact info27)) rfl ⟨⟨_, rfl, Own.nil _ _⟩, D0⟩

set_option maxHeartbeats 3200000 in
set_option maxRecDepth 100000 in
theorem specCir_near (n cap : Nat) (a : Option Addr) (js : List Int) (w : World) (h1 : 1 ≤ n) (hn : n ≤ 62) (hc : js.length = 0 ∨ ∃ b off, a = some ⟨b, off, none⟩ ∧ b < w.heap.size ∧ Cells w b off js) (hl : js.length ≤ 62) :
    Calls Try.prog 26 #[.int .i64 n, .slice a js.length cap] w fun e w' => GRes w.heap.size (CirN n js) (CirL n js) (CirC n js) e w' ∧ Below w.heap.size w w' := by
  have D0 : Below w.heap.size w (w.alloc (.cells #[.int .i64 0, .slice none 0 0] 35)) := (Below.refl _ _).alloc (Nat.le_refl _) _
  have RB0 := Lib.hid (World.alloc_heap_new w (.cells #[.int .i64 0, .slice none 0 0] 35))
  obtain ⟨W, hW⟩ : ∃ W, W = w.alloc (.cells #[.int .i64 0, .slice none 0 0] 35) := ⟨_, rfl⟩
  rw [← hW] at D0 RB0
  have hsz : w.heap.size + 1 ≤ W.heap.size := by rw [hW]; simp
  have n1 : (1 : Int) ≤ n := by omega
  have n2 : (n : Int) ≤ 62 := by omega
  have HC := Lib.hid hc
  have h4 : ¬ (62 : Int) < js.length := by omega
  have h5 : ¬ 62 < js.length := by omega
  clear hc
  go_enter Try.func26, Try.ntmps26
  go_wp2_with (go_at_call 28; refine (in_any _ _ _ _).mono ?_; rintro e w' ⟨rfl, rfl⟩)
  rw [← hW]
  clear hW
  go_loop [6] (fun i => ∃ k : Nat, k ≤ js.length ∧ i = .int .i64 k ∧ Hid (jumpsOk n js k = true)) (fun i => js.length - (intOf i).toNat)
  case atStart => exact ⟨0, Nat.zero_le _, rfl, rfl⟩
  case round =>
    obtain ⟨k, hk, rfl, HK⟩ := hrel
    by_cases hlt : (k : Int) < js.length
    · have hkl : k < js.length := by omega
      obtain ⟨b, off, rfl, hb, hcc⟩ : ∃ b off, a = some ⟨b, off, none⟩ ∧ b < w.heap.size ∧ Cells w b off js := by rcases HC.out with h | h <;> first | omega | exact h
      have hz : W.cell? ⟨b, off + k, none⟩ = some (.int .i64 (el js k)) := (D0.cell (p := ⟨b, off + k, none⟩) hb).trans (hcc k hkl)
      have hk0 : (0 : Int) ≤ k := by omega
      clear hcc
      by_cases hg : jumpB n (el js k) = true
      · obtain ⟨g1, g2⟩ := (jumpB_iff _ _).1 hg
        have HK2 : Hid (jumpsOk n js (k + 1) = true) := by show _ = _; rw [jumpsOk_succ, HK.out, hg]; rfl
        clear hg
        go_wp2_with (go_at_call 28; refine (in_any _ _ _ _).mono ?_; rintro e w' ⟨rfl, rfl⟩)
        go_round
        case rel => exact ⟨k + 1, by omega, by go_num, HK2⟩
        case measure => simp [intOf]; omega
      · have hno : cirOk n js = false := by
          unfold cirOk
          rw [jumpsOk_no hkl (by simpa using hg)]; simp
        obtain ⟨e1, e2, e3⟩ := Cir_no hno
        have HJN := Lib.hid e1; have HJL := Lib.hid e2; have HJC := Lib.hid e3
        have hb0 : (decide (1 ≤ el js k) && decide (el js k ≤ (n : Int) - 1)) = false := by
          have : jumpB n (el js k) = false := by simpa using hg
          exact this
        have HIN : Hid (∀ W1 : World, Calls Try.prog 28 #[.int .i64 (el js k), .int .i64 1, .int .i64 ((n : Int) - 1)] W1 fun e w' => e = .returned (.bool false) ∧ W1 = w') := fun W1 => by
          have := in_any (el js k) 1 ((n : Int) - 1) W1
          rw [hb0] at this; exact this
        obtain ⟨r0, r1, g0, g1⟩ := two_cells RB0.out
        clear hg hno e1 e2 e3 hb0
        go_wp2_with (go_at_call 28; refine (HIN.out _).mono ?_; rintro e w' ⟨rfl, rfl⟩)
        have hfin := two_set (a := .int .i64 0) (b := .slice none 0 0) RB0.out
        rw [HJN.out, HJL.out, HJC.out]
        refine bodyPost_ret (v := .tuple #[.agg #[.int .i64 0, .slice none 0 0], .int .i64 2]) (results_cell2 (p := 4) (u := 5) (ty := 35) rfl _ _ w.heap.size 35 _ (0, 0) _ rfl hfin Try.underlying35 rfl (by exact info27)) rfl ⟨⟨_, rfl, Own.nil _ _⟩, ?_⟩
        exact (D0.setCell (p := ⟨w.heap.size, 0, none⟩) (by simp) _).setCell (p := ⟨w.heap.size, 1, none⟩) (by simp) _
    · obtain rfl : k = js.length := by omega
      have hyes : cirOk n js = true := (by rw [cirOk_iff]; exact ⟨by omega, by omega, hl, HK.out⟩)
      obtain ⟨e1, e2, e3⟩ := Cir_yes hyes
      have HJN := Lib.hid e1; have HJL := Lib.hid e2; have HJC := Lib.hid e3
      have hem := Lib.hid (specEmpty_any n W (by omega))
      clear hyes e1 e2 e3
      go_wp2_with fail
      refine hem.out.mono ?_
      rintro e w1 ⟨rfl, hB1, hb1⟩
      have HB1 := Lib.hid hB1
      have s1 := hb1.size
      have l1 := hB1.lt
      obtain ⟨g, hg⟩ : ∃ g, g = W.heap.size + 1 := ⟨_, rfl⟩
      obtain ⟨bx, hbx⟩ : ∃ bx, bx = w1.heap.size := ⟨_, rfl⟩
      obtain ⟨w2, h2⟩ : ∃ w2, w2 = w1.alloc (.cells #[.int .i64 n, .slice (some ⟨W.heap.size + 1, 0, none⟩) n n] 35) := ⟨_, rfl⟩
      have X2 : Hid (w2.heap[bx]? = some (.cells #[.int .i64 n, .slice (some ⟨g, 0, none⟩) n n] 35 (0, 0))) := by rw [h2, hg, hbx]; exact World.alloc_heap_new w1 _
      have hb2 : Below w1.heap.size w1 w2 := by rw [h2]; exact (Below.refl _ _).alloc (Nat.le_refl _) _
      have s2 : bx + 1 ≤ w2.heap.size := (Array.getElem?_eq_some_iff.1 X2.out).1
      rw [← hg] at HB1 l1
      have HB2 : Hid (Blk w2 g (rowsF n (adjS (cirS n js 0)))) := by show Blk _ _ _; rw [show adjS (cirS n js 0) = fun _ _ => false from rfl, rowsF_none]; exact HB1.out.belowAll hb2
      have E2 : Below W.heap.size W w2 := hb1.trans (hb2.mono s1)
      have g1 : w.heap.size + 2 ≤ g := by omega
      have g2 : W.heap.size ≤ g := by omega
      rw [← hbx] at l1
      go_wp2_with fail
      rw [← h2, ← hg, ← hbx]
      clear h2 hb2 hb1 hB1 HB1 hg hbx s1 hem
      go_loopw [8] (fun i wr => ∃ v : Nat, v ≤ n ∧ i = .int .i64 v ∧ Hid (Blk wr g (rowsF n (adjS (cirS n js v)))) ∧ Hid (wr.heap[bx]? = some (.cells #[.int .i64 n, .slice (some ⟨g, 0, none⟩) n n] 35 (0, 0))) ∧ Below W.heap.size W wr ∧ bx + 1 ≤ wr.heap.size) (fun i _ => n - (intOf i).toNat)
      case atStart => exact ⟨0, Nat.zero_le _, rfl, HB2, X2, E2, s2⟩
      case round =>
        obtain ⟨v, hv, rfl, HB, HX, hE, hs⟩ := hrel
        by_cases hlv : v < n
        · go_wp2_with fail
          obtain ⟨wo, rfl⟩ : ∃ wo : World, wo = wr := ⟨_, rfl⟩
          have HBI : Hid (Blk wo g (rowsF n (adjS (cirS n js v ++ cirR n js v 0)))) := by show Blk _ _ _; rw [show cirS n js v ++ cirR n js v 0 = cirS n js v by simp [cirR]]; exact HB.out
          go_loopw [9] (fun i wr => ∃ t : Nat, t ≤ js.length ∧ i = .int .i64 t ∧ Hid (Blk wr g (rowsF n (adjS (cirS n js v ++ cirR n js v t)))) ∧ Hid (wr.heap[bx]? = some (.cells #[.int .i64 n, .slice (some ⟨g, 0, none⟩) n n] 35 (0, 0))) ∧ Below W.heap.size W wr ∧ bx + 1 ≤ wr.heap.size) (fun i _ => js.length - (intOf i).toNat)
          case atStart => exact ⟨0, Nat.zero_le _, rfl, HBI, HX, hE, hs⟩
          case round =>
            obtain ⟨t, ht, rfl, HQ, HY, hF, hu⟩ := hrel
            by_cases hlt2 : (t : Int) < js.length
            · have htl : t < js.length := by omega
              obtain ⟨b, off, rfl, hb, hcc⟩ : ∃ b off, a = some ⟨b, off, none⟩ ∧ b < w.heap.size ∧ Cells w b off js := by rcases HC.out with h | h <;> first | omega | exact h
              have hz : wr.cell? ⟨b, off + t, none⟩ = some (.int .i64 (el js t)) := (hF.cell (p := ⟨b, off + t, none⟩) (by simp; omega)).trans ((D0.cell (p := ⟨b, off + t, none⟩) hb).trans (hcc t htl))
              have ht0 : (0 : Int) ≤ t := by omega
              obtain ⟨j1, j2⟩ := jumpsOk_at HK.out htl
              obtain ⟨j, hj⟩ := Int.eq_ofNat_of_zero_le (show 0 ≤ el js t by omega)
              rw [hj] at j1 j2 hz
              have HSU : Hid (cirS n js v ++ cirR n js v (t + 1) = (cirS n js v ++ cirR n js v t) ++ [(v, (v + j) % n)]) := by show _ = _; rw [cirR, hj, Int.toNat_natCast, List.append_assoc]
              have m3 := Int.emod_nonneg ((v : Int) + j) (b := (n : Int)) (by omega)
              have m4 := Int.emod_lt_of_pos ((v : Int) + j) (b := (n : Int)) (by omega)
              have q2 := Nat.mod_lt (v + j) (show n > 0 by omega)
              have EE : Hid (((v : Int) + j) % (n : Int) = (((v + j) % n : Nat) : Int)) := by show _ = _; simp
              have HJ1 := Lib.hid (fun W1 h => put_at n g n (cirS n js v ++ cirR n js v t) v ((v + j) % n) (v : Int) (((v : Int) + j) % (n : Int)) W1 h (by omega) q2 hn rfl EE.out)
              have W1 : IntKind.i64.wrap ((v : Int) + j) = (v : Int) + j := IntWalk.i64_in _ (by omega)
              have z1 : (0 : Int) ≤ (v : Int) + j := by clear W1; omega
              have W2 : Int.tmod ((v : Int) + j) (n : Int) = ((v : Int) + j) % (n : Int) := Int.tmod_eq_emod_of_nonneg z1
              clear hcc hj q2 EE
              obtain ⟨x0, x1, -, -⟩ := two_cells HY.out
              have HW : Hid (∀ w3 : World, wr.drew.grownBy w3 (some g) → w3.heap[bx]? = some (.cells #[.int .i64 n, .slice (some ⟨g, 0, none⟩) n n] 35 (0, 0)) ∧ Below W.heap.size W w3 ∧ bx + 1 ≤ w3.heap.size) := fun w3 h =>
                ⟨(h.block bx hu (by simp; omega)).trans HY.out, hF.drew.grown h (by simp; omega) (fun j e => by cases e; omega), Nat.le_trans hu h.size⟩
              go_wp2_with fail
              go_region_with (go_at_call 46; refine (HJ1.out wr.drew HQ.out).mono ?_; rintro e w4 ⟨⟨v4, rfl⟩, hB4, hg4⟩; have HB4 := Lib.hid hB4; obtain ⟨hY4, hF4, hu4⟩ := HW.out w4 hg4; have HY4 := Lib.hid hY4; clear x0 x1 hB4 hg4 hY4)
              all_goals clear W1 W2 z1 HW HY HQ hF HJ1 hz
              all_goals
                have HB5 : Hid (Blk w4 g (rowsF n (adjS (cirS n js v ++ cirR n js v (t + 1))))) := by show Blk _ _ _; rw [HSU.out]; exact HB4.out
                go_wp2_with fail
                go_roundw
                case rel => exact ⟨t + 1, by omega, by go_num, HB5, HY4, hF4, hu4⟩
                case measure => simp [intOf]; omega
            · obtain rfl : t = js.length := by omega
              go_wp2_with fail
              go_roundw
              case rel => exact ⟨v + 1, by omega, by go_num, HQ, HY, hF, hu⟩
              case measure => simp [intOf]; omega
        · obtain rfl : v = n := by omega
          have RB := Lib.hid ((hE.block w.heap.size (by omega)).trans RB0.out)
          obtain ⟨r0, r1, k0, k1⟩ := two_cells RB.out
          obtain ⟨x0, x1, -, -⟩ := two_cells HX.out
          go_wp2_with fail
          have hfin := two_set (a := .int .i64 v) (b := .slice (some ⟨g, 0, none⟩) v v) RB.out
          rw [HJN.out, HJL.out, HJC.out]
          refine bodyPost_ret (v := .tuple #[.agg #[.int .i64 v, .slice (some ⟨g, 0, none⟩) v v], .int .i64 0]) (results_cell2 (p := 4) (u := 5) (ty := 35) rfl _ _ w.heap.size 35 _ (0, 0) _ rfl hfin Try.underlying35 rfl (by exact info27)) rfl ⟨⟨_, rfl, ?_⟩, ?_⟩
          · have h := Own.of_blk ((HB.out.other (a := ⟨w.heap.size, 0, none⟩) (by simp; omega) (.int .i64 v)).other (a := ⟨w.heap.size, 1, none⟩) (by simp; omega) (.slice (some ⟨g, 0, none⟩) v v)) (B := w.heap.size) (by omega) (by rw [rowsF_length]; unfold maxLen; omega)
            rw [rowsF_length] at h
            exact h
          · exact ((D0.trans (hE.mono (by omega))).setCell (p := ⟨w.heap.size, 0, none⟩) (by simp) _).setCell (p := ⟨w.heap.size, 1, none⟩) (by simp) _

theorem specCir_any (n : Int) (v : Value) (js : List Int) (w : World) (hs : Sl w v js) :
    Calls Try.prog 26 #[.int .i64 n, v] w fun e w' => GRes w.heap.size (CirN n js) (CirL n js) (CirC n js) e w' ∧ Below w.heap.size w w' := by
  by_cases h : ¬ (1 ≤ n ∧ n ≤ 62) ∨ 62 < js.length
  · have hno : cirOk n js = false := by
      cases e : cirOk n js with
      | false => rfl
      | true => have := (cirOk_iff n js).1 e; omega
    obtain ⟨e1, e2, e3⟩ := Cir_no hno
    rw [e1, e2, e3, slForm hs]
    exact specCir_far n _ _ _ w h
  · obtain ⟨n', rfl⟩ := Int.eq_ofNat_of_zero_le (show 0 ≤ n by omega)
    rcases hs with ⟨a, c, rfl, rfl⟩ | ⟨b, off, cap, rfl, hb, hc⟩
    · exact specCir_near n' c a [] w (by omega) (by omega) (.inl rfl) (by simp)
    · exact specCir_near n' cap _ js w (by omega) (by omega) (.inr ⟨b, off, rfl, hb, hc⟩) (by omega)
end Go.Proofs.Ytaekecccpgcgiaa
