/-
  Word digraphs: spec.l08Follows, spec.l08Digraph; impl.digraphWithoutArcs. (gen: mk_bj2.py)
-/
import Derived.Test.YtkflcjhoghiffaaDoorBj0
import Derived.Test.YtkflcjhoghiffaaDoorDh8
import Derived.Deep.RegionWith
import Derived.BigQuiet
namespace Go.Proofs.YtkflcjhoghiffaaDoor
set_option maxRecDepth 100000
set_option maxRecDepth 100000
open Go.RowKit

set_option maxHeartbeats 1600000 in
theorem dwa_some (m : Nat) (hm : m ≤ 62) (w : World) :
    Calls Tryd.prog 52 #[.int .i64 m] w fun e w' => (∃ g, e = .returned (.agg #[.int .i64 m, .slice (some ⟨g, 0, none⟩) m m]) ∧ Blk w' g (List.replicate m 0) ∧ w.heap.size ≤ g) ∧ Below w.heap.size w w' := by
  obtain ⟨W, hW⟩ : ∃ W, W = w.alloc (.cells #[.int .i64 0, .slice none 0 0] 25) := ⟨_, rfl⟩
  have D0 : Below w.heap.size w W := by rw [hW]; exact (Below.refl _ _).alloc (Nat.le_refl _) _
  have hsz : W.heap.size = w.heap.size + 1 := by rw [hW]; simp
  have HR : Hid (W.heap[w.heap.size]? = some (.cells #[.int .i64 0, .slice none 0 0] 25 (0, 0))) := by show _ = _; rw [hW]; exact World.alloc_heap_new w _
  have hmk := run_mkInts m (by omega)
  obtain ⟨r0, r1, g0, g1⟩ := two_cells HR.out
  have hnw : ¬ w.heap.size = W.heap.size := by omega
  have HE := Lib.hid D0
  have HS := Lib.hid hsz
  clear D0
  go_enter Tryd.func52, Tryd.ntmps52
  go_upto_region 1 with fail
  rw [← hW]
  clear hW
  go_wp2_with fail
  have hfin := two_set (a := .int .i64 (m : Int)) (b := .slice (some ⟨w.heap.size + 1, 0, none⟩) m m) HR.out
  obtain ⟨W4, hW4⟩ : ∃ W4, W4 = (W.setCell ⟨w.heap.size, 0, none⟩ (.int .i64 (m : Int))).setCell ⟨w.heap.size, 1, none⟩ (.slice (some ⟨w.heap.size + 1, 0, none⟩) m m) := ⟨_, rfl⟩
  have hs4 : W4.heap.size = w.heap.size + 1 := by rw [hW4]; simp; exact HS.out
  have hE4 : Below w.heap.size w W4 := by rw [hW4]; exact (HE.out.setCell (p := ⟨w.heap.size, 0, none⟩) (by simp) _).setCell (p := ⟨w.heap.size, 1, none⟩) (by simp) _
  rw [← hW4] at hfin
  rw [← hW4]
  refine bodyPost_ret (v := .agg #[.int .i64 (m : Int), .slice (some ⟨w.heap.size + 1, 0, none⟩) m m]) (results_cell_row (p := 2) (ty := 25) rfl _ _ w.heap.size 25 _ (0, 0) _ rfl (heap_old_at hfin _) Tryd.underlying25 rfl (by exact infoDg)) rfl ⟨⟨w.heap.size + 1, rfl, ?_, by omega⟩, ?_⟩
  · have h := Blk.new W4 (List.replicate m 0)
    rw [hs4] at h
    exact h
  · exact hE4.alloc hE4.size _


theorem qdrewK {P : Program} {f : FuncId} {args : Array Value} {w : World} {n : Nat} {v : Value}
    (h : Calls P f args (w.drewN n) fun e w' => e = .returned v ∧ ∃ m, w' = (w.drewN n).drewN m) : Calls P f args (w.drewN n) fun e w'' => e = .returned v ∧ ∃ m, w'' = w.drewN m :=
  h.mono fun _ _ ⟨he, m, hm⟩ => ⟨he, n + m, by rw [hm, World.drewN_drewN]⟩
theorem fol_yes {s t : List Int} {n : Nat} (hs : s.length = n) (ht : t.length = n) (h : ∀ i, 1 ≤ i → i < n → el s i = el t (i - 1)) : fol s t = true := by
  unfold fol
  rw [decide_eq_true_eq]
  apply List.ext_getElem
  · rw [List.length_drop, List.length_take]; omega
  · intro i h1 h2
    rw [List.length_drop] at h1
    have := h (1 + i) (by omega) (by omega)
    rw [el_lt (by omega), el_lt (by omega)] at this
    rw [List.getElem_drop, List.getElem_take, this]
    congr 1
    omega
theorem fol_no {s t : List Int} {n i : Nat} (hs : s.length = n) (ht : t.length = n) (h1 : 1 ≤ i) (h2 : i < n) (h : ¬ el s i = el t (i - 1)) : fol s t = false := by
  unfold fol
  refine decide_eq_false fun e => h ?_
  have e1 : (s.drop 1)[i - 1]'(by rw [List.length_drop]; omega) = (t.take (s.length - 1))[i - 1]'(by rw [List.length_take]; omega) := by simp only [e]
  rw [List.getElem_drop, List.getElem_take] at e1
  rw [el_lt (by omega), el_lt (by omega), ← e1]
  congr 1
  omega

set_option maxHeartbeats 1600000 in
theorem follows_any (b1 o1 c1 b2 o2 c2 n : Nat) (xs ys : List Int) (w : World) (h1 : Cells w b1 o1 xs) (h2 : Cells w b2 o2 ys) (hx : xs.length = n) (hy : ys.length = n) (hn1 : 1 ≤ n) (hn : n ≤ 62) :
    Calls Tryd.prog 61 #[.slice (some ⟨b1, o1, none⟩) n c1, .slice (some ⟨b2, o2, none⟩) n c2] w fun e w' => e = .returned (.bool (fol xs ys)) ∧ ∃ m, w' = w.drewN m := by
  have H1 : Hid (∀ W, (∃ m, W = w.drewN m) → ∀ i, i < n → W.cell? ⟨b1, o1 + i, none⟩ = some (.int .i64 (el xs i))) := fun W hW i hi => by obtain ⟨m, rfl⟩ := hW; exact h1 i (by omega)
  have H2 : Hid (∀ W, (∃ m, W = w.drewN m) → ∀ i, i < n → W.cell? ⟨b2, o2 + i, none⟩ = some (.int .i64 (el ys i))) := fun W hW i hi => by obtain ⟨m, rfl⟩ := hW; exact h2 i (by omega)
  have HX := Lib.hid hx; have HY := Lib.hid hy
  obtain ⟨r, HR⟩ : ∃ r, Hid (r = fol xs ys) := ⟨_, rfl⟩
  rw [← HR.out]
  clear h1 h2 hx hy
  go_enter Tryd.func61, Tryd.ntmps61
  go_wp2_with fail
  go_loopw [5] (fun jv wr => ∃ j : Nat, j < n ∧ jv = .int .i64 ((j : Int) + 1) ∧ Hid (∀ i, 1 ≤ i → i < j + 1 → el xs i = el ys (i - 1)) ∧ Hid (∃ m, wr = w.drewN m)) (fun jv _ => n - (intOf jv).toNat)
  case atStart => exact ⟨0, by omega, rfl, fun i h1 h2 => by omega, 0, rfl⟩
  case round =>
    obtain ⟨j, hj, rfl, HA, HM⟩ := hrel
    by_cases hlt : (j : Int) + 1 < n
    · have hjn : j + 1 < n := by omega
      have e1 := H1.out wr HM.out (j + 1) hjn
      have e2 := H2.out wr HM.out j hj
      obtain ⟨x, HXX⟩ : ∃ x, Hid (x = el xs (j + 1)) := ⟨_, rfl⟩
      obtain ⟨y, HYY⟩ : ∃ y, Hid (y = el ys j) := ⟨_, rfl⟩
      rw [← HXX.out] at e1
      rw [← HYY.out] at e2
      have hj0 : (0 : Int) ≤ j := by omega
      by_cases hxy : x = y
      · have hne : (x != y) = false := by simpa using hxy
        have HA1 : Hid (∀ i, 1 ≤ i → i < j + 1 + 1 → el xs i = el ys (i - 1)) := fun i h1 h2 => by
          by_cases e : i = j + 1
          · rw [e, Nat.add_sub_cancel, ← HXX.out, ← HYY.out]; exact hxy
          · exact HA.out i h1 (by omega)
        clear hxy
        go_wp2_with fail
        go_quiet (fail)
        generalize hq : wr.drewN _ = wq
        have hdq : Hid (∃ m', wq = w.drewN m') := by obtain ⟨m, hm⟩ := HM.out; exact ⟨_, by rw [← hq, hm, World.drewN_drewN]⟩
        clear hq
        go_wp2_with fail
        go_roundw
        case rel => exact ⟨j + 1, by omega, by go_num, HA1, hdq⟩
        case measure => simp [intOf]; omega
      · have hne : (x != y) = true := by simpa using hxy
        have HNO := Lib.hid (fol_no HX.out HY.out (by omega) hjn (by rw [Nat.add_sub_cancel, ← HXX.out, ← HYY.out]; exact hxy))
        clear hxy
        go_wp2_with fail
        go_quiet (fail)
        generalize hq : wr.drewN _ = wq
        have hdq : Hid (∃ m', wq = w.drewN m') := by obtain ⟨m, hm⟩ := HM.out; exact ⟨_, by rw [← hq, hm, World.drewN_drewN]⟩
        clear hq
        go_wp2_with fail
        go_ret
        exact ⟨by rw [HR.out, HNO.out]; rfl, hdq.out⟩
    · have hjn : j + 1 = n := by omega
      have HYS := Lib.hid (fol_yes HX.out HY.out fun i h1 h2 => HA.out i h1 (by omega))
      go_wp2_with fail
      go_ret
      exact ⟨by rw [HR.out, HYS.out]; rfl, HM.out⟩

theorem arc_val {kz r : Bool} {T : List (List Int)} {i j p : Nat} {a b : Int} (hr : fol (elS T i) (elS T j) = r) (hi : (elS T i).length = p + 1) (hj : (elS T j).length = p + 1) (ha : el (elS T i) p = a) (hb : el (elS T j) p = b) :
    arcF kz T i j = (r && !(kz && (a == b))) := by
  unfold arcF flw
  rw [hr]
  have hl : ∀ {s : List Int} {x : Int}, s.length = p + 1 → el s p = x → s.getLast? = some x := fun {s x} h1 h2 => by
    rw [List.getLast?_eq_getElem?, h1, Nat.add_sub_cancel, List.getElem?_eq_getElem (by omega), ← h2, el_lt (by omega)]
  rw [hl hi ha, hl hj hb]
  rfl

set_option maxHeartbeats 6400000 in
theorem l08Dig_any (kz : Bool) (g cap p : Nat) (T : List (List Int)) (w : World) (hR : Rows w g 0 T) (hg : g < w.heap.size) (hel : ∀ i, i < T.length → (elS T i).length = p + 1) (hp : p + 1 ≤ 62) (hN : T.length ≤ 62) :
    Calls Tryd.prog 44 #[.slice (some ⟨g, 0, none⟩) T.length cap, .bool kz] w fun e w' => (∃ r, e = .returned (.agg #[.int .i64 T.length, .slice (some ⟨r, 0, none⟩) T.length T.length]) ∧ Blk w' r (rowsF T.length (arcF kz T)) ∧ w.heap.size ≤ r) ∧ Below w.heap.size w w' := by
  have HW : Hid (∀ (i : Nat) (W : World), i < T.length → Below w.heap.size w W → ∃ b o c, W.cell? ⟨g, i, none⟩ = some (.slice (some ⟨b, o, none⟩) (p + 1) c) ∧ Cells W b o (elS T i)) := fun i W hi hb => by
    obtain ⟨q, c, h1, h2⟩ := hR.below hg hb i hi
    rw [Nat.zero_add, hel i hi] at h1
    rcases h2 with ⟨_, _, _, h0⟩ | ⟨b, o, cap', e, _, hcc⟩
    · have := hel i hi; rw [h0] at this; simp at this
    · cases e
      exact ⟨b, o, c, h1, hcc⟩
  have HEL := Lib.hid hel
  obtain ⟨N, HN⟩ : ∃ N, Hid (N = T.length) := ⟨_, rfl⟩
  have hN62 : N ≤ 62 := by rw [HN.out]; exact hN
  rw [← HN.out]
  have hmk := run_mkInts N (by omega)
  obtain ⟨W3, hW3⟩ : ∃ W3, W3 = ((w.alloc (.cells #[.int .i64 0, .slice none 0 0] 25)).alloc (.cells (intsA (List.replicate N 0)) 2)).alloc (.cells #[.int .i64 N, .slice (some ⟨w.heap.size + 1, 0, none⟩) N N] 25) := ⟨_, rfl⟩
  have hs3 : W3.heap.size = w.heap.size + 3 := by rw [hW3]; simp
  have HRB : Hid (W3.heap[w.heap.size]? = some (.cells #[.int .i64 0, .slice none 0 0] 25 (0, 0))) := by show _ = _; rw [hW3]; exact heap_old_at (heap_old_at (World.alloc_heap_new w _) _) _
  have HX : Hid (W3.heap[w.heap.size + 2]? = some (.cells #[.int .i64 N, .slice (some ⟨w.heap.size + 1, 0, none⟩) N N] 25 (0, 0))) := by show _ = _; rw [hW3]; exact heap_new_at _ _ _ (by simp)
  have HB : Hid (Blk W3 (w.heap.size + 1) (rowsF N (spF (arcF kz T) 0 0))) := by
    show Blk _ _ _
    rw [spF_zero, hW3]
    have h := Blk.new (w.alloc (.cells #[.int .i64 0, .slice none 0 0] 25)) (List.replicate N 0)
    rw [World.size_alloc] at h
    exact h.alloc _
  have D3 : Below w.heap.size w W3 := by rw [hW3]; exact (((Below.refl _ _).alloc (Nat.le_refl _) _).alloc (by simp) _).alloc (by simp; omega) _
  have HS3 := Lib.hid hs3
  have E3 : Below (w.heap.size + 1) W3 W3 := Below.refl _ _
  clear hR hel hs3
  go_enter Tryd.func44, Tryd.ntmps44
  go_wp2_with fail
  rw [← hW3]
  clear hW3 hmk
  go_loopw [6] (fun t wr => ∃ i : Nat, i ≤ N ∧ t = .int .i64 i ∧ Hid (Blk wr (w.heap.size + 1) (rowsF N (spF (arcF kz T) i 0))) ∧ Hid (wr.heap[w.heap.size + 2]? = some (.cells #[.int .i64 N, .slice (some ⟨w.heap.size + 1, 0, none⟩) N N] 25 (0, 0))) ∧ Below (w.heap.size + 1) W3 wr) (fun t _ => N - (intOf t).toNat)
  case atStart => exact ⟨0, Nat.zero_le _, rfl, HB, HX, E3⟩
  case round =>
    clear HB E3 HX
    obtain ⟨i, hi, rfl, HB, HK, hE⟩ := hrel
    by_cases hlt : (i : Int) < N
    · have hiN : i < N := by omega
      go_wp2_with fail
      go_loopw [7] (fun t wr => ∃ j : Nat, j ≤ N ∧ t = .int .i64 j ∧ Hid (Blk wr (w.heap.size + 1) (rowsF N (spF (arcF kz T) i j))) ∧ Hid (wr.heap[w.heap.size + 2]? = some (.cells #[.int .i64 N, .slice (some ⟨w.heap.size + 1, 0, none⟩) N N] 25 (0, 0))) ∧ Below (w.heap.size + 1) W3 wr) (fun t _ => N - (intOf t).toNat)
      case atStart => exact ⟨0, Nat.zero_le _, rfl, HB, HK, hE⟩
      case round =>
        clear HB HK hE
        obtain ⟨j, hj, rfl, HB, HK, hE⟩ := hrel
        by_cases hltj : (j : Int) < N
        · have hjN : j < N := by omega
          have hiT : i < T.length := by rw [← HN.out]; exact hiN
          have hjT : j < T.length := by rw [← HN.out]; exact hjN
          have li := HEL.out i hiT
          have lj := HEL.out j hjT
          have hi0 : (0 : Int) ≤ i := by omega
          have hj0 : (0 : Int) ≤ j := by omega
          have hp0 : (0 : Int) ≤ p := by omega
          obtain ⟨a, hea⟩ : ∃ a, el (elS T i) p = a := ⟨_, rfl⟩
          obtain ⟨b, heb⟩ : ∃ b, el (elS T j) p = b := ⟨_, rfl⟩
          obtain ⟨r, hr⟩ : ∃ r, fol (elS T i) (elS T j) = r := ⟨_, rfl⟩
          obtain ⟨n, hn⟩ : ∃ n, n = p + 1 := ⟨_, rfl⟩
          have hnp : (n : Int) - 1 = (p : Int) := by rw [hn]; omega
          have hnpl : (p : Int) < n := by rw [hn]; omega
          have hnpn : p < n := by rw [hn]; omega
          have hn62 : (n : Int) ≤ 62 := by rw [hn]; omega
          obtain ⟨b0, o0, c0, e0, H0⟩ := HW.out i wr hiT (D3.trans (hE.mono (by omega)))
          have a0 := H0 p (by omega)
          rw [hea] at a0
          rw [← hn] at e0
          have HHR := Lib.hid hr; have HHA := Lib.hid hea; have HHB := Lib.hid heb; have HHN := Lib.hid hn
          clear H0 hr hea heb hn
          go_wp2_with fail
          go_quiet (fail)
          generalize hwa : wr.drewN _ = wa
          have HBa : Hid (Blk wa (w.heap.size + 1) (rowsF N (spF (arcF kz T) i j))) := by rw [← hwa]; exact HB.out
          have HKa : Hid (wa.heap[w.heap.size + 2]? = some (.cells #[.int .i64 N, .slice (some ⟨w.heap.size + 1, 0, none⟩) N N] 25 (0, 0))) := by rw [← hwa]; exact HK.out
          have hEa : Below (w.heap.size + 1) W3 wa := by rw [← hwa]; exact drewN_below hE _
          clear hwa HB HK hE a0 e0
          have hDE : Below w.heap.size w wa := D3.trans (hEa.mono (by omega))
          obtain ⟨bi, oi, ci, ei, Hi⟩ := HW.out i wa hiT hDE
          obtain ⟨bj, oj, cj, ej, Hj⟩ := HW.out j wa hjT hDE
          have ai := Hi p (by omega)
          have aj := Hj p (by omega)
          have harc := arc_val (kz := kz) HHR.out li lj HHA.out HHB.out
          have hfo := fun m => follows_any bi oi ci bj oj cj (p + 1) (elS T i) (elS T j) (wa.drewN m) (fun x hx => Hi x hx) (fun x hx => Hj x hx) li lj (by omega) hp
          rw [HHR.out] at hfo
          rw [HHA.out] at ai
          rw [HHB.out] at aj
          rw [← HHN.out] at ei ej hfo
          have HFO := Lib.hid hfo
          obtain ⟨x0, x1, -, -⟩ := two_cells HKa.out
          have HB := HBa; have HK := HKa; have hE := hEa
          clear Hi Hj li lj hfo hDE HBa HKa hEa
          cases r
          · have harc : arcF kz T i j = false := by rw [harc]; rfl
            have HB3 : Hid (Blk wa (w.heap.size + 1) (rowsF N (spF (arcF kz T) i (j + 1)))) := by show Blk _ _ _; rw [spF_no harc]; exact HB.out
            have HE3 := Lib.hid hE
            clear hE HB harc
            go_wp2_with fail
            go_quiet ((go_at_call 61; exact qdrewK (HFO.out _)))
            clear HFO
            go_wp2_with fail
            go_roundw
            case rel => exact ⟨j + 1, by omega, by go_num, HB3, HK, drewN_below HE3.out _⟩
            case measure => simp [intOf]; omega
          · cases kz
            · have harc : arcF false T i j = true := by rw [harc]; rfl
              have HY := Lib.hid (spF_yes (n := N) (i := i) (j := j) hjN harc)
              obtain ⟨t, ht⟩ : ∃ t : Nat, (t : Int) = el (rowsF N (spF (arcF false T) i j)) i ∧ t < 2 ^ 62 := ⟨bitsN (spF (arcF false T) i j i) N, by rw [el_rowsF _ _ _ hiN], Nat.lt_of_lt_of_le (bitsN_lt _ _) (Nat.pow_le_pow_right (by decide) hN62)⟩
              have c1 : wa.cell? ⟨w.heap.size + 1, i, none⟩ = some (.int .i64 (t : Int)) := by rw [ht.1]; exact HB.out.cell (by rw [rowsF_length]; exact hiN)
              have f1 := HB.out.frozen i
              have qa := pow_bounds j (by omega)
              have P1 : Hid (bits .or .i64 (t : Int) (2 ^ j) = ((t ||| 2 ^ j : Nat) : Int)) := by
                show _ = _
                have h2 : 2 ^ j < 2 ^ 63 := Nat.pow_lt_pow_right (by decide) (by omega)
                rw [show ((2 : Int) ^ j) = ((2 ^ j : Nat) : Int) by simp, or_i64 _ _ (by have := ht.2; omega) h2]
              have HB3 : Hid (∀ m, Blk ((wa.drewN m).setCell ⟨w.heap.size + 1, i, none⟩ (.int .i64 ((t ||| 2 ^ j : Nat) : Int))) (w.heap.size + 1) (rowsF N (spF (arcF false T) i (j + 1)))) := fun m => by
                rw [← HY.out]
                unfold put1 por
                rw [← ht.1, Int.toNat_natCast]
                exact (show Blk (wa.drewN m) (w.heap.size + 1) _ from HB.out).set i _
              have HK3 : Hid (∀ m, ((wa.drewN m).setCell ⟨w.heap.size + 1, i, none⟩ (.int .i64 ((t ||| 2 ^ j : Nat) : Int))).heap[w.heap.size + 2]? = some (.cells #[.int .i64 N, .slice (some ⟨w.heap.size + 1, 0, none⟩) N N] 25 (0, 0))) := fun m => (Below.heap_setCell (wa.drewN m) ⟨w.heap.size + 1, i, none⟩ _ _ (by simp)).trans HK.out
              have HE3 : Hid (∀ m, Below (w.heap.size + 1) W3 ((wa.drewN m).setCell ⟨w.heap.size + 1, i, none⟩ (.int .i64 ((t ||| 2 ^ j : Nat) : Int)))) := fun m => (drewN_below hE m).setCell (p := ⟨w.heap.size + 1, i, none⟩) (Nat.le_refl _) _
              clear ht hE HB HK HY harc
              go_wp2_with fail
              go_quiet ((go_at_call 61; exact qdrewK (HFO.out _)))
              go_wp2_with fail
              go_region
              rw [P1.out]
              clear qa c1 f1 x0 x1 HFO
              go_wp2_with fail
              go_roundw
              case rel => exact ⟨j + 1, by omega, by go_num, HB3.out _, HK3.out _, HE3.out _⟩
              case measure => simp [intOf]; omega
            · by_cases hab : a = b
              · have harc : arcF true T i j = false := by rw [harc, hab]; simp
                have hbe : (b == a) = true := by rw [hab]; simp
                have HB3 : Hid (Blk wa (w.heap.size + 1) (rowsF N (spF (arcF true T) i (j + 1)))) := by show Blk _ _ _; rw [spF_no harc]; exact HB.out
                have HE3 := Lib.hid hE
                clear hE HB harc
                go_wp2_with fail
                go_quiet ((go_at_call 61; exact qdrewK (HFO.out _)))
                clear HFO
                go_wp2_with fail
                go_roundw
                case rel => exact ⟨j + 1, by omega, by go_num, HB3, HK, drewN_below HE3.out _⟩
                case measure => simp [intOf]; omega
              · have harc : arcF true T i j = true := by rw [harc]; simpa using hab
                have hbe : (b == a) = false := by simpa using fun e => hab e.symm
                have HY := Lib.hid (spF_yes (n := N) (i := i) (j := j) hjN harc)
                obtain ⟨t, ht⟩ : ∃ t : Nat, (t : Int) = el (rowsF N (spF (arcF true T) i j)) i ∧ t < 2 ^ 62 := ⟨bitsN (spF (arcF true T) i j i) N, by rw [el_rowsF _ _ _ hiN], Nat.lt_of_lt_of_le (bitsN_lt _ _) (Nat.pow_le_pow_right (by decide) hN62)⟩
                have c1 : wa.cell? ⟨w.heap.size + 1, i, none⟩ = some (.int .i64 (t : Int)) := by rw [ht.1]; exact HB.out.cell (by rw [rowsF_length]; exact hiN)
                have f1 := HB.out.frozen i
                have qa := pow_bounds j (by omega)
                have P1 : Hid (bits .or .i64 (t : Int) (2 ^ j) = ((t ||| 2 ^ j : Nat) : Int)) := by
                  show _ = _
                  have h2 : 2 ^ j < 2 ^ 63 := Nat.pow_lt_pow_right (by decide) (by omega)
                  rw [show ((2 : Int) ^ j) = ((2 ^ j : Nat) : Int) by simp, or_i64 _ _ (by have := ht.2; omega) h2]
                have HB3 : Hid (∀ m, Blk ((wa.drewN m).setCell ⟨w.heap.size + 1, i, none⟩ (.int .i64 ((t ||| 2 ^ j : Nat) : Int))) (w.heap.size + 1) (rowsF N (spF (arcF true T) i (j + 1)))) := fun m => by
                  rw [← HY.out]
                  unfold put1 por
                  rw [← ht.1, Int.toNat_natCast]
                  exact (show Blk (wa.drewN m) (w.heap.size + 1) _ from HB.out).set i _
                have HK3 : Hid (∀ m, ((wa.drewN m).setCell ⟨w.heap.size + 1, i, none⟩ (.int .i64 ((t ||| 2 ^ j : Nat) : Int))).heap[w.heap.size + 2]? = some (.cells #[.int .i64 N, .slice (some ⟨w.heap.size + 1, 0, none⟩) N N] 25 (0, 0))) := fun m => (Below.heap_setCell (wa.drewN m) ⟨w.heap.size + 1, i, none⟩ _ _ (by simp)).trans HK.out
                have HE3 : Hid (∀ m, Below (w.heap.size + 1) W3 ((wa.drewN m).setCell ⟨w.heap.size + 1, i, none⟩ (.int .i64 ((t ||| 2 ^ j : Nat) : Int)))) := fun m => (drewN_below hE m).setCell (p := ⟨w.heap.size + 1, i, none⟩) (Nat.le_refl _) _
                clear ht hE HB HK HY harc
                go_wp2_with fail
                go_quiet ((go_at_call 61; exact qdrewK (HFO.out _)))
                go_wp2_with fail
                go_region
                rw [P1.out]
                clear qa c1 f1 x0 x1 HFO
                go_wp2_with fail
                go_roundw
                case rel => exact ⟨j + 1, by omega, by go_num, HB3.out _, HK3.out _, HE3.out _⟩
                case measure => simp [intOf]; omega
        · obtain rfl : j = N := by omega
          have HB2 : Hid (Blk wr (w.heap.size + 1) (rowsF j (spF (arcF kz T) (i + 1) 0))) := by show Blk _ _ _; rw [← spF_row]; exact HB.out
          clear HB
          go_wp2_with fail
          go_roundw
          case rel => exact ⟨i + 1, by omega, by go_num, HB2, HK, hE⟩
          case measure => simp [intOf]; omega
    · obtain rfl : i = N := by omega
      obtain ⟨x0, x1, -, -⟩ := two_cells HK.out
      have HR1 : Hid (wr.heap[w.heap.size]? = some (.cells #[.int .i64 0, .slice none 0 0] 25 (0, 0))) := (hE.block _ (by omega)).trans HRB.out
      obtain ⟨y0, y1, g0, g1⟩ := two_cells HR1.out
      have HEF := Lib.hid (D3.trans (hE.mono (by omega)))
      clear hE
      go_wp2_with fail
      have hfin := two_set (a := .int .i64 (i : Int)) (b := .slice (some ⟨w.heap.size + 1, 0, none⟩) i i) HR1.out
      refine bodyPost_ret (v := .agg #[.int .i64 (i : Int), .slice (some ⟨w.heap.size + 1, 0, none⟩) i i]) (results_cell_row (p := 4) (ty := 25) rfl _ _ w.heap.size 25 _ (0, 0) _ rfl hfin Tryd.underlying25 rfl (by exact infoDg)) rfl ⟨⟨w.heap.size + 1, rfl, ?_, by omega⟩, ?_⟩
      · rw [← spF_all]
        exact (HB.out.other (by simp) _).other (by simp) _
      · exact (HEF.out.setCell (p := ⟨w.heap.size, 0, none⟩) (by simp) _).setCell (p := ⟨w.heap.size, 1, none⟩) (by simp) _
end Go.Proofs.YtkflcjhoghiffaaDoor
