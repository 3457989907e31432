/-
  spec.l06Antipodal, spec.IsAntipodal.
-/
import Derived.Test.YtlodaeoikkjbkaaDoorAn0
import Derived.Test.YtlodaeoikkjbkaaDoorMgB
namespace Go.Proofs.YtlodaeoikkjbkaaDoor
set_option maxRecDepth 100000
open Go.RowKit

/-- The diameter of a connected graph, as a number. -/
def dmX (zs : List Int) : Int := mxF (rcF zs zs.length) zs.length
/-- Whether a connected graph is antipodal. -/
noncomputable def anQ (zs : List Int) : Bool := decide (2 ≤ dmX zs) && anB zs (dmX zs)
theorem anQ_few {zs : List Int} (h : dmX zs < 2) : anQ zs = false := by unfold anQ; rw [decide_eq_false (by omega)]; rfl
theorem anQ_many {zs : List Int} (h : ¬ dmX zs < 2) : anQ zs = anB zs (dmX zs) := by unfold anQ; rw [decide_eq_true (by omega)]; rfl
/-- What the model's loops have looked at. -/
def anS (zs : List Int) (d : Int) (v x y : Nat) : Prop := (∀ a p q, a < v → p < zs.length → q < p → anT zs d a p q = false) ∧ (∀ p q, p < x → q < p → anT zs d v p q = false) ∧ ∀ q, q < y → anT zs d v x q = false
theorem anT_a {zs : List Int} {d : Int} {v x y : Nat} (h : (el (dsL zs v) x == d) = false) : anT zs d v x y = false := by
  have : ¬ el (dsL zs v) x = d := by simpa using h
  unfold anT; rw [decide_eq_false this]; rfl
theorem anT_b {zs : List Int} {d : Int} {v x y : Nat} (h : (el (dsL zs v) y == d) = false) : anT zs d v x y = false := by
  have : ¬ el (dsL zs v) y = d := by simpa using h
  unfold anT; rw [decide_eq_false this]; simp
theorem anT_c {zs : List Int} {d : Int} {v x y : Nat} (h : (el (dsL zs x) y != d) = false) : anT zs d v x y = false := by
  have : el (dsL zs x) y = d := by simpa using h
  unfold anT; rw [decide_eq_true this]; simp
theorem anT_yes {zs : List Int} {d : Int} {v x y : Nat} (h1 : (el (dsL zs v) x == d) = true) (h2 : (el (dsL zs v) y == d) = true) (h3 : (el (dsL zs x) y != d) = true) : anT zs d v x y = true := by
  have a1 : el (dsL zs v) x = d := by simpa using h1
  have a2 : el (dsL zs v) y = d := by simpa using h2
  have a3 : ¬ el (dsL zs x) y = d := by simpa using h3
  unfold anT; rw [decide_eq_true a1, decide_eq_true a2, decide_eq_false a3]; rfl
theorem anS.y {zs : List Int} {d : Int} {v x y : Nat} (h : anS zs d v x y) (hy : anT zs d v x y = false) : anS zs d v x (y + 1) :=
  ⟨h.1, h.2.1, fun q hq => by
    by_cases e : q = y
    · rw [e]; exact hy
    · exact h.2.2 q (by omega)⟩
theorem anS.x {zs : List Int} {d : Int} {v x : Nat} (h : anS zs d v x x) : anS zs d v (x + 1) 0 :=
  ⟨h.1, fun p q hp hq => by
    by_cases e : p = x
    · subst e; exact h.2.2 q hq
    · exact h.2.1 p q (by omega) hq, fun q hq => by omega⟩
theorem anS.v {zs : List Int} {d : Int} {v : Nat} (h : anS zs d v zs.length 0) : anS zs d (v + 1) 0 0 :=
  ⟨fun a p q ha hp hq => by
    by_cases e : a = v
    · subst e; exact h.2.1 p q hp hq
    · exact h.1 a p q (by omega) hp hq, fun p q hp => by omega, fun q hq => by omega⟩
theorem anS.done {zs : List Int} {d : Int} (h : anS zs d zs.length 0 0) : anP zs d := fun v x y hv hx hy => h.1 v x y hv hx hy

set_option maxHeartbeats 3200000 in
theorem antiS_some (b off cap : Nat) (zs : List Int) (w : World) (hb : b < w.heap.size) (hc : Cells w b off zs) (hg : isG zs.length zs = true) :
    Calls Tryd.prog 53 #[.agg #[.int .i64 zs.length, .slice (some ⟨b, off, none⟩) zs.length cap]] w fun e w' => e = .returned (.bool (anQ zs)) ∧ Below w.heap.size w w' := by
  obtain ⟨g1, g2, -, -, -⟩ := isG_parts hg
  have hl : zs.length ≤ 62 := by omega
  have hp0 : 0 < zs.length := by omega
  have D0 : Below w.heap.size w (w.alloc (.cells #[.int .i64 zs.length, .slice (some ⟨b, off, none⟩) zs.length cap] 28)) := (Below.refl _ _).alloc (Nat.le_refl _) _
  have HB := Lib.hid (World.alloc_heap_new w (.cells #[.int .i64 zs.length, .slice (some ⟨b, off, none⟩) zs.length cap] 28))
  have hrs := rows6_some b off cap zs _ (Nat.lt_of_lt_of_le hb D0.size) (hc.below D0 hb) hg
  have HDI : Hid (∀ W, Below w.heap.size w W → Calls Tryd.prog 56 #[.agg #[.int .i64 zs.length, .slice (some ⟨b, off, none⟩) zs.length cap]] W fun e w' => e = .returned (.tuple #[.int .i64 (dmX zs), .int .i64 (mnF (rcF zs zs.length) zs.length)]) ∧ Below W.heap.size W w') := fun W hW => diam2_some zs.length b off cap zs W (Nat.lt_of_lt_of_le hb hW.size) (hc.below hW hb) hg
  have HD0 := Lib.hid D0
  have HFEW := Lib.hid (@anQ_few zs)
  have HMANY := Lib.hid (@anQ_many zs)
  obtain ⟨r, hr⟩ : ∃ r, r = anQ zs := ⟨_, rfl⟩
  rw [← hr] at HFEW HMANY ⊢
  generalize mnF (rcF zs zs.length) zs.length = dm at *
  generalize dmX zs = d at *
  clear hc hg D0 hr
  go_enter Tryd.func53, Tryd.ntmps53
  go_wp2_with fail
  refine hrs.mono ?_
  rintro e w2 ⟨⟨u, rfl, hTS⟩, hb2⟩
  have HX2 := Lib.hid ((hb2.block w.heap.size (by simp)).trans HB.out)
  have HB2 := Lib.hid (HD0.out.trans (hb2.mono HD0.out.size))
  obtain ⟨x0, x1, -, -⟩ := two_cells HX2.out
  have HFT := Lib.hid hTS
  clear hb2 hrs hTS
  go_wp2_with fail
  refine (HDI.out _ HB2.out).mono ?_
  rintro e w3 ⟨rfl, hb3⟩
  have HB3 := Lib.hid (HB2.out.trans (hb3.mono HB2.out.size))
  obtain ⟨gu, cu, rfl⟩ : ∃ gu cu, u = .slice (some ⟨gu, 0, none⟩) zs.length cu := by
    rcases HFT.out.form with ⟨_, e⟩ | ⟨gu, cu, e, _, _⟩
    · have := congrArg List.length e; rw [dsLL_length, List.length_nil] at this; omega
    · rw [dsLL_length] at e; exact ⟨gu, cu, e⟩
  have HRD : Hid (RdD w3 gu zs) := HFT.out.rdD fun k _ hk => hb3.block k hk
  clear x0 x1 hb3 HFT
  by_cases h2 : d < 2
  · have HF := Lib.hid (HFEW.out h2)
    go_wp2
    go_ret
    exact ⟨ret_bool HF.out.symm, HB3.out⟩
  · have HM := Lib.hid (HMANY.out (by omega))
    go_wp2_with fail
    go_loop [6, 7, 8] (fun t _ _ => ∃ v : Nat, v ≤ zs.length ∧ t = .int .i64 v ∧ Hid (anS zs d v 0 0)) (fun t _ _ => zs.length - (intOf t).toNat)
    case atStart => exact ⟨0, Nat.zero_le _, rfl, ⟨fun a p q ha => by omega, fun p q hp => by omega, fun q hq => by omega⟩⟩
    case round =>
      obtain ⟨v, hv, rfl, HS⟩ := hrel
      by_cases hlt : v < zs.length
      · have hlti : (v : Int) < zs.length := by omega
        obtain ⟨p, c, c1, c2⟩ := HRD.out v hlt
        have HC2 := Lib.hid c2; clear c2
        go_wp2_with fail
        go_loop [7, 8] (fun t _ => ∃ x : Nat, x ≤ zs.length ∧ t = .int .i64 x ∧ Hid (anS zs d v x 0)) (fun t _ => zs.length - (intOf t).toNat)
        case atStart => exact ⟨0, Nat.zero_le _, rfl, HS⟩
        case round =>
          clear HS
          obtain ⟨x, hx, rfl, HS⟩ := hrel
          by_cases hlx : x < zs.length
          · have hlxi : (x : Int) < zs.length := by omega
            obtain ⟨q, c', d1, d2⟩ := HRD.out x hlx
            have HD2 := Lib.hid d2; clear d2
            have cx := HC2.out x hlx
            have hx0 : (0 : Int) ≤ x := by omega
            have hv0 : (0 : Int) ≤ v := by omega
            go_wp2_with fail
            go_loop [8] (fun t => ∃ y : Nat, y ≤ x ∧ t = .int .i64 y ∧ Hid (anS zs d v x y)) (fun t => x - (intOf t).toNat)
            case atStart => exact ⟨0, Nat.zero_le _, rfl, HS⟩
            case round =>
              clear HS
              obtain ⟨y, hy, rfl, HS⟩ := hrel
              by_cases hly : y < x
              · have hlyi : (y : Int) < x := by omega
                have hlyn : (y : Int) < zs.length := by omega
                have hy0 : (0 : Int) ≤ y := by omega
                have cy := HC2.out y (by omega)
                have dy := HD2.out y (by omega)
                have HTA := Lib.hid (@anT_a zs d v x y)
                have HTB := Lib.hid (@anT_b zs d v x y)
                have HTC := Lib.hid (@anT_c zs d v x y)
                have HTY := Lib.hid (@anT_yes zs d v x y)
                have HNO : Hid (anT zs d v x y = true → r = false) := fun h => by rw [HM.out]; exact anB_no hlt hlx hly h
                generalize el (dsL zs v) x = A at *
                generalize el (dsL zs v) y = B at *
                generalize el (dsL zs x) y = C at *
                cases h1 : (A == d) with
                | false =>
                  have HN := Lib.hid (HS.out.y (HTA.out h1))
                  clear HTA HTB HTC HTY HNO HS
                  go_wp2
                  go_round
                  case rel => exact ⟨y + 1, by omega, by go_num, HN⟩
                  case measure => simp [intOf]; omega
                | true =>
                  cases h3 : (B == d) with
                  | false =>
                    have HN := Lib.hid (HS.out.y (HTB.out h3))
                    clear HTA HTB HTC HTY HNO HS
                    go_wp2
                    go_round
                    case rel => exact ⟨y + 1, by omega, by go_num, HN⟩
                    case measure => simp [intOf]; omega
                  | true =>
                    cases h4 : (C != d) with
                    | false =>
                      have HN := Lib.hid (HS.out.y (HTC.out h4))
                      clear HTA HTB HTC HTY HNO HS
                      go_wp2
                      go_round
                      case rel => exact ⟨y + 1, by omega, by go_num, HN⟩
                      case measure => simp [intOf]; omega
                    | true =>
                      have HN := Lib.hid (HNO.out (HTY.out h1 h3 h4))
                      clear HTA HTB HTC HTY HNO HS
                      go_wp2
                      go_ret
                      exact ⟨ret_bool HN.out.symm, HB3.out⟩
              · obtain rfl : y = x := by omega
                have HN := Lib.hid HS.out.x
                go_wp2
                go_round
                case rel => exact ⟨y + 1, by omega, by go_num, HN⟩
                case measure => simp [intOf]; omega
          · obtain rfl : x = zs.length := by omega
            have HN := Lib.hid HS.out.v
            go_wp2
            go_round
            case rel => exact ⟨v + 1, by omega, by go_num, HN⟩
            case measure => simp [intOf]; omega
      · obtain rfl : v = zs.length := by omega
        have HN : Hid (r = true) := by show _ = _; rw [HM.out]; exact anB_yes HS.out.done
        go_wp2
        go_ret
        exact ⟨ret_bool HN.out.symm, HB3.out⟩

/-- What IsAntipodal answers. -/
noncomputable def apD (n : Int) (zs : List Int) : Bool := isG n zs && (connB zs && anQ zs)

set_option maxHeartbeats 1600000 in
theorem specAn_any (n : Int) (v : Value) (zs : List Int) (w : World) (h : Sl w v zs) (hl : zs.length ≤ 9223372036854775807) :
    Calls Tryd.prog 29 #[.agg #[.int .i64 n, v]] w fun e w' => e = .returned (.tuple #[.bool (apD n zs), .int .i64 (cnC n zs)]) ∧ Below w.heap.size w w' := by
  have D0 : Below w.heap.size w (w.alloc (.cells #[.int .i64 n, v] 28)) := (Below.refl _ _).alloc (Nat.le_refl _) _
  have hco := l06Code_any n v zs _ (h.below D0) hl
  have HB := Lib.hid (World.alloc_heap_new w (.cells #[.int .i64 n, v] 28))
  cases hg : isG n zs with
  | false =>
    have e1 : apD n zs = false := by simp [apD, hg]
    have e2 : cnC n zs = 1 := by simp [cnC, hg]
    rw [e1, e2]
    rw [e2] at hco
    clear e1 e2 hg h
    go_enter Tryd.func29, Tryd.ntmps29
    go_wp2_with (go_at_call 52; refine hco.mono ?_; rintro e w1 ⟨rfl, hb1⟩)
    go_ret2
    exact ⟨rfl, D0.trans (hb1.mono (by simp))⟩
  | true =>
    cases hcn : connB zs with
    | false =>
      have e1 : apD n zs = false := by simp [apD, hcn]
      have e2 : cnC n zs = 5 := by simp [cnC, hg, hcn]
      rw [e1, e2]
      rw [e2] at hco
      clear e1 e2 hg h hcn
      go_enter Tryd.func29, Tryd.ntmps29
      go_wp2_with (go_at_call 52; refine hco.mono ?_; rintro e w1 ⟨rfl, hb1⟩)
      go_ret2
      exact ⟨rfl, D0.trans (hb1.mono (by simp))⟩
    | true =>
      have e1 : apD n zs = anQ zs := by simp [apD, hg, hcn]
      have e2 : cnC n zs = 0 := by simp [cnC, hg, hcn]
      rw [e1, e2]
      rw [e2] at hco
      obtain ⟨h1, _, h3, _⟩ := isG_parts hg
      obtain ⟨b, off, cap, rfl, hb, hc⟩ := sl_some h (by omega)
      obtain rfl : (zs.length : Int) = n := h3
      have HAN : Hid (∀ W, Below w.heap.size w W → Calls Tryd.prog 53 #[.agg #[.int .i64 zs.length, .slice (some ⟨b, off, none⟩) zs.length cap]] W fun e w' => e = .returned (.bool (anQ zs)) ∧ Below W.heap.size W w') := fun W hW => antiS_some b off cap zs W (Nat.lt_of_lt_of_le hb hW.size) (hc.below hW hb) hg
      have HD0 := Lib.hid D0
      generalize anQ zs = r at *
      clear e1 e2 hg h hcn D0 hc
      go_enter Tryd.func29, Tryd.ntmps29
      go_wp2_with fail
      refine hco.mono ?_
      rintro e w1 ⟨rfl, hb1⟩
      have HX1 := Lib.hid ((hb1.block w.heap.size (by simp)).trans HB.out)
      have HB1 := Lib.hid (HD0.out.trans (hb1.mono HD0.out.size))
      obtain ⟨x0, x1, -, -⟩ := two_cells HX1.out
      clear hb1 hco
      go_wp2_with (go_at_call 53; refine (HAN.out _ HB1.out).mono ?_; rintro e w2 ⟨rfl, hb2⟩)
      go_ret2
      exact ⟨rfl, HB1.out.trans (hb2.mono HB1.out.size)⟩
end Go.Proofs.YtlodaeoikkjbkaaDoor
