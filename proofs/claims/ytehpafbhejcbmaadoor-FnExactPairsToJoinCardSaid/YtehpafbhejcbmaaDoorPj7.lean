/-
  impl.pairsToJoin: the iterator, over rows that its loop's body may change.
-/
import Derived.Test.YtehpafbhejcbmaaDoorMy7
import Derived.Test.YtehpafbhejcbmaaDoorEi
namespace Go.Proofs.YtehpafbhejcbmaaDoor
set_option maxRecDepth 100000
set_option maxRecDepth 100000
open Go.RowKit Go.Shelf

attribute [local go_sem] Oper.semAt_some

/-- What the iterator reads: the boxes of the graph and of the two numbers, the rows as they are behind the pairs pre, the table. -/
structure RdJ (a ka ca b off cap n : Nat) (k c : Int) (hs : List Int) (X : World) : Prop where
  box : X.heap[a]? = some (.cells #[.int .i64 n, .slice (some ⟨b, off, none⟩) n cap] 28 (0, 0))
  kk : X.cell? ⟨ka, 0, none⟩ = some (.int .i64 k)
  cc : X.cell? ⟨ca, 0, none⟩ = some (.int .i64 c)
  rows : Cells X b off hs
  tab : Tab X
  lt : b < X.heap.size

/-- The pair x is the next one behind pre. -/
def NxJ (Rf : List (Nat × Nat) → List Int) (k c : Int) (n : Nat) (pre : List (Nat × Nat)) (x : Nat × Nat) : Prop :=
  x.1 < x.2 ∧ x.2 < n ∧ pre = pjW Rf k c x.1 (pjV Rf k c n x.1) x.2 ∧ mayB (Rf pre) k c x.1 x.2 = true

/-- A scope without a jump, inside the wide fence. -/
theorem scope_wide {n : Nat} {P : Program} {c : Code} {Q : Exit → Act → World → Prop} {a : Act} {w : World} (h : c.wpIn Fence.wide n P (Exit.noGoto Q) a w) : (Code.scope c).wpIn Fence.wide n P Q a w :=
  wpIn_wide.2 (wp_scope_straight (wpIn_wide.1 h))

set_option maxHeartbeats 6400000 in
theorem pairs1_in (m : Nat) (hm : 4 ≤ m) (l a ka ca b off cap n : Nat) (k c : Int) (Rf : List (Nat × Nat) → List Int) (J : List (Nat × Nat) → World → Prop) (Jx : List (Nat × Nat) → World → Prop)
    (hF : ∀ v, v ≤ n → FitD n k (Rf (pjV Rf k c n v)) ∧ ∀ w, w ≤ n → FitD n k (Rf (pjW Rf k c v (pjV Rf k c n v) w)))
    (W : World) (hJ : OwnFrom W.heap.size J)
    (hRd : ∀ pre X, J pre X → RdJ a ka ca b off cap n k c (Rf pre) X)
    (hY : ∀ pre x X, J pre X → NxJ Rf k c n pre x → YieldAt Fence.wide (m - 1) Tryd.prog l #[.int .i64 (x : Nat × Nat).1, .int .i64 x.2] X fun e X' =>
      ((e = .returned (.bool true) ∧ J (pre ++ [x]) X') ∨ (e = .returned (.bool false) ∧ Jx (pre ++ [x]) X')))
    (h0 : J [] W) :
    CallsIn Fence.wide m Tryd.prog 70 #[.func (.yield l) #[] #[], .pointer (some ⟨a, 0, none⟩), .pointer (some ⟨ka, 0, none⟩), .pointer (some ⟨ca, 0, none⟩)] W fun e W' => (∃ v, e = .returned v) ∧
      ((∃ ys, ys = pjV Rf k c n n ∧ J ys W') ∨ (∃ pre, Jx pre W')) := by
  have HJ := Lib.hid hJ; have HRD := Lib.hid hRd; have HY := Lib.hid hY; have HF := Lib.hid hF
  have hR0 := hRd _ _ h0
  obtain ⟨b0, b1, -, -⟩ := two_cells hR0.box
  have HJ0 : Hid (J (pjV Rf k c n 0) W) := h0
  have hm1 : 1 ≤ m := by omega
  clear hJ hRd hY h0 hF hR0
  refine callsIn_of_wp Tryd.func70 rfl trivial ?_ rfl
  simp only [Tryd.ntmps70, List.size_toArray, List.length_cons, List.length_nil, Nat.reduceAdd, Nat.reduceSub, Array.replicate_succ, Array.replicate_zero, List.push_toArray, List.append_toArray, List.nil_append, List.cons_append]
  gi_wp2
  refine scope_wide ?_
  refine wpIn_seq (wpIn_label ?_)
  gi_wp2
  gi_loopw [9] (fun i wr => ∃ v : Nat, v ≤ n ∧ i = .int .i64 v ∧ Hid (J (pjV Rf k c n v) wr)) (fun i _ => n - (intOf i).toNat)
  case atStart => exact ⟨0, Nat.zero_le _, rfl, HJ0⟩
  case round =>
    clear HJ0 b0 b1
    obtain ⟨v, hv, rfl, HK⟩ := hrel
    by_cases hlt : (v : Int) < n
    · have hvl : v < n := by omega
      have hv0 : (0 : Int) ≤ v := by omega
      have hR1 := HRD.out _ _ HK.out
      have hfn := (HF.out v (by omega)).1.2.1
      have hn62 : n ≤ 62 := by have := (isG_parts hfn).2.1; have := (HF.out v (by omega)).1.1; have := (isG_parts hfn).2.2.1; omega
      clear hfn
      obtain ⟨b0, b1, -, -⟩ := two_cells hR1.box
      have HK1 : Hid (J (pjW Rf k c v (pjV Rf k c n v) (v + 1)) wr) := by show J _ _; rw [pjW_start _ _ _ (Nat.le_refl _)]; exact HK.out
      gi_wp2
      clear b0 b1 hR1
      gi_loopw [6] (fun i wr => ∃ y : Nat, v < y ∧ y ≤ n ∧ i = .int .i64 y ∧ Hid (J (pjW Rf k c v (pjV Rf k c n v) y) wr)) (fun i _ => n - (intOf i).toNat)
      case atStart => exact ⟨v + 1, by omega, by omega, by go_num, HK1⟩
      case round =>
        clear HK HK1
        obtain ⟨y, hvy, hy, rfl, HK⟩ := hrel
        have hR := HRD.out _ _ HK.out
        obtain ⟨b0, b1, -, -⟩ := two_cells hR.box
        by_cases hly : (y : Int) < n
        · have hyl : y < n := by omega
          have hy0 : (0 : Int) ≤ y := by omega
          obtain ⟨q, hq⟩ : ∃ q, q = pjW Rf k c v (pjV Rf k c n v) y := ⟨_, rfl⟩
          obtain ⟨hs, hhs⟩ : ∃ hs, hs = Rf q := ⟨_, rfl⟩
          have hfit := (HF.out v (by omega)).2 y (by omega)
          rw [← hq, ← hhs] at hfit
          obtain ⟨f1, f2, f3⟩ := hfit
          rw [← hq] at HK
          rw [← hq, ← hhs] at hR
          have HST : Hid (k ≤ (dg hs v : Int) → J (pjV Rf k c n (v + 1)) = J q) := fun h => by
            have h2 := pjW_stuck (Rf := Rf) (k := k) (c := c) (v := v) (w := y) (q := pjV Rf k c n v) (by rw [← hq, ← hhs]; exact h) (n - y)
            rw [show y + (n - y) = n by omega, ← hq] at h2
            show J (pjW Rf k c v (pjV Rf k c n v) n) = _
            rw [h2]
          have HYS : Hid (mayB hs k c v y = true → J (pjW Rf k c v (pjV Rf k c n v) (y + 1)) = J (q ++ [(v, y)])) := fun h => by
            rw [pjW_yes hvy (by rw [← hq, ← hhs]; exact h), ← hq]
          have HNS : Hid (mayB hs k c v y = false → J (pjW Rf k c v (pjV Rf k c n v) (y + 1)) = J q) := fun h => by
            rw [pjW_no (by rw [← hq, ← hhs]; exact h), ← hq]
          have HNX : Hid (mayB hs k c v y = true → NxJ Rf k c n q (v, y)) := fun h => ⟨hvy, hyl, hq, by rw [← hhs]; exact h⟩
          have hzv := isG_row_ok f2 v (by omega)
          have hdv := f3 v hvl
          have hdy := f3 y hyl
          have HCO := Lib.hid (fun X => countD_any hs v X hzv)
          have HMY : Hid (∀ X, Below wr.heap.size wr X → Calls Tryd.prog 71 #[.agg #[.int .i64 n, .slice (some ⟨b, off, none⟩) n cap], .int .i64 v, .int .i64 y, .int .i64 k, .int .i64 c] X fun e X' => e = .returned (.bool (mayB hs k c v y)) ∧ Below X.heap.size X X') := fun X h => by
            have h2 := mayI_some b off cap hs v y k c X (Nat.lt_of_lt_of_le hR.lt h.size) (hR.rows.below h hR.lt) (hR.tab.belowAll h) (by rw [f1]; exact f2) (by omega) (by omega) hdv hdy
            rw [f1] at h2
            exact h2
          have cz := hR.rows v (by omega)
          have ck := hR.kk
          have HL := Lib.hid f1
          clear hq hhs f1 f2 f3 hR
          generalize el hs v = Z at *
          generalize (dg hs v : Int) = D at *
          generalize mayB hs k c v y = MB at *
          gi_wp2_with fail
          gi_cut [27, 41] from 20 (fun t s wx => t = .bool (D == k) ∧ s = u41 ∧ wr.grownBy wx none)
          case first =>
            have hmix := mixed
            refine wpIn_calm ?_
            gi_region_with_o (first
              | (refine ⟨trivial, ?_⟩; gi_at_call 69; refine (callsIn_wide.2 (HCO.out _)).mono ?_; rintro e w5 ⟨rfl, rfl⟩))
            all_goals
              gi_wp2_with fail
              gi_meet
              exact ⟨rfl, rfl, grown_drew _ _⟩
          case rest =>
            obtain ⟨rfl, rfl, hgX⟩ := hcut
            have HKc : Hid (J q wc) := HJ.out _ _ _ none HK.out hgX (fun r e => by cases e)
            have hRc := HRD.out _ _ HKc.out
            obtain ⟨b0, b1, -, -⟩ := two_cells hRc.box
            have ck := hRc.kk
            have cc := hRc.cc
            have hbc : Below wr.heap.size wr wc := (Below.refl _ _).grown hgX (Nat.le_refl _) (fun r e => by cases e)
            have HBC := Lib.hid hbc
            clear hRc cz HCO hgX hbc
            by_cases hDk : D = k
            · have t1 : (D == k) = true := by simpa using hDk
              have HE := Lib.hid (HST.out (by omega))
              clear hDk
              rw [t1]
              gi_wp2
              exact ⟨⟨v + 1, by omega, by go_num, by show J _ _; rw [HE.out]; exact HKc.out⟩, by simp [intOf]; omega⟩
            · have t1 : (D == k) = false := by simpa using hDk
              rw [t1]
              clear hDk
              cases MB with
              | false =>
                have HE := Lib.hid (HNS.out rfl)
                gi_wp2_with (refine ⟨trivial, ?_⟩; gi_at_call 71; refine (callsIn_wide.2 (HMY.out _ HBC.out)).mono ?_; rintro e w5 ⟨rfl, hb5⟩; have HK5 : Hid (J q w5) := HJ.out _ _ _ none HKc.out (grown_of_below hb5 none) (fun r e => by cases e))
                refine ⟨fun _ h => (by cases h), ?_⟩
                gi_wp2
                go_roundw
                case rel => exact ⟨y + 1, by omega, by omega, by go_num, by show J _ _; rw [HE.out]; exact HK5.out⟩
                case measure => simp [intOf]; omega
              | true =>
                have HE := Lib.hid (HYS.out rfl)
                have HN := Lib.hid (HNX.out rfl)
                gi_wp2_with (refine ⟨trivial, ?_⟩; gi_at_call 71; refine (callsIn_wide.2 (HMY.out _ HBC.out)).mono ?_; rintro e w5 ⟨rfl, hb5⟩; obtain ⟨fn, tmps, assign, body, hyy, hRR⟩ := HY.out q (v, y) w5 (HJ.out _ _ _ none HKc.out (grown_of_below hb5 none) (fun r e => by cases e)) HN.out)
                refine hRR.mono ?_
                rintro e W3 (⟨rfl, hJ3⟩ | ⟨rfl, hJx3⟩)
                · gi_wp2
                  go_roundw
                  case rel => exact ⟨y + 1, by omega, by omega, by go_num, by show J _ _; rw [HE.out]; exact hJ3⟩
                  case measure => simp [intOf]; omega
                · gi_wp2
                  rw [Exit.noGoto_ret]
                  refine bodyPost_ret (results_none rfl _ _ _) rfl ?_
                  exact ⟨⟨_, rfl⟩, .inr ⟨_, hJx3⟩⟩
        · obtain rfl : y = n := by omega
          gi_wp2
          go_roundw
          case rel => exact ⟨v + 1, by omega, by go_num, HK⟩
          case measure => simp [intOf]; omega
    · obtain rfl : v = n := by omega
      have hR1 := HRD.out _ _ HK.out
      obtain ⟨b0, b1, -, -⟩ := two_cells hR1.box
      gi_wp2
      go_end0
      exact ⟨⟨_, rfl⟩, .inl ⟨_, rfl, HK.out⟩⟩

theorem pairs_stops (m : Nat) (hm : 4 ≤ m) (a ka ca b off cap n : Nat) (k c : Int) (Rf : List (Nat × Nat) → List Int)
    (hF : ∀ v, v ≤ n → FitD n k (Rf (pjV Rf k c n v)) ∧ ∀ w, w ≤ n → FitD n k (Rf (pjW Rf k c v (pjV Rf k c n v) w))) (w : World) :
    SeqO Fence.wide m Tryd.prog 70 #[.pointer (some ⟨a, 0, none⟩), .pointer (some ⟨ka, 0, none⟩), .pointer (some ⟨ca, 0, none⟩)] (fun x : Nat × Nat => #[.int .i64 x.1, .int .i64 x.2]) (fun _ _ => True) (fun pre X => RdJ a ka ca b off cap n k c (Rf pre) X) (fun pre x => NxJ Rf k c n pre x) (fun ys => ys = pjV Rf k c n n) (fun _ => True) w := by
  intro l J Jx W _ hJ _ _ hRd hY h0
  refine (pairs1_in m hm l a ka ca b off cap n k c Rf (J []) Jx hF W (hJ []) (fun pre X h => (hRd [] pre X h).1) (fun pre x X h hp => ?_) h0).mono ?_
  · obtain ⟨fn, tmps, assign, body, h1, h2⟩ := hY [] pre x X h hp
    exact ⟨fn, tmps, assign, body, h1, h2.mono fun e X' h3 => h3.2.imp (fun h4 => ⟨h4.1, h4.2.1⟩) id⟩
  · rintro e W' ⟨h1, h2⟩
    exact ⟨h1, h2.imp (fun ⟨xs, h3, h4⟩ => ⟨xs, [], h3, h4⟩) (fun ⟨pre, h3⟩ => ⟨pre, trivial, h3⟩)⟩

theorem pairsToJoin_any (n : Int) (v : Value) (k c : Int) (w : World) : Calls Tryd.prog 48 #[.agg #[.int .i64 n, v], .int .i64 k, .int .i64 c] w fun e w' => e = .returned (.func (.func 70) #[] #[.pointer (some ⟨w.heap.size, 0, none⟩), .pointer (some ⟨w.heap.size + 1, 0, none⟩), .pointer (some ⟨w.heap.size + 2, 0, none⟩)]) ∧
    w' = ((w.alloc (.cells #[.int .i64 n, v] 28)).alloc (.cells #[.int .i64 k] 2)).alloc (.cells #[.int .i64 c] 2) := by
  go_enter Tryd.func48, Tryd.ntmps48
  go_wp2
  go_ret
  exact ⟨rfl, rfl⟩
end Go.Proofs.YtehpafbhejcbmaaDoor
