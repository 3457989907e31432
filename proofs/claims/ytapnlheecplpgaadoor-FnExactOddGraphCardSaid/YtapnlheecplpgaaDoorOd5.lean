/-
  Odd graphs: impl.pairsApart (slices.Index, slices.Contains, three nested loops, a labelled continue).
-/
import Derived.Test.YtapnlheecplpgaaDoorOd3
import Derived.Test.YtapnlheecplpgaaDoorJp
import Derived.WalkMore
namespace Go.Proofs.YtapnlheecplpgaaDoor
set_option maxRecDepth 100000
open Go.RowKit Go.Maps Go.WideMaps Go.WideElems

theorem has_yes {ys : List Int} {x : Int} {i : Nat} (hi : i < ys.length) (h : el ys i = x) : ys.contains x = true := by
  rw [List.contains_iff_mem, ← h, el_lt hi]
  exact List.getElem_mem _
theorem has_no {ys : List Int} {x : Int} (h : ∀ i, i < ys.length → ¬ el ys i = x) : ys.contains x = false := by
  cases e : ys.contains x with
  | false => rfl
  | true =>
    rw [List.contains_iff_mem] at e
    obtain ⟨i, hi, hx⟩ := List.getElem_of_mem e
    exact absurd (by rw [el_lt hi]; exact hx) (h i hi)
theorem apart_no {xs ys : List Int} {a : Nat} (ha : a < xs.length) (h : ys.contains (el xs a) = true) : apart xs ys = false := by
  cases e : apart xs ys with
  | false => rfl
  | true =>
    unfold apart at e
    have := List.all_eq_true.1 e (el xs a) (by rw [el_lt ha]; exact List.getElem_mem _)
    rw [h] at this
    cases this
theorem apart_yes {xs ys : List Int} (h : ∀ a, a < xs.length → ys.contains (el xs a) = false) : apart xs ys = true := by
  unfold apart
  rw [List.all_eq_true]
  intro x hx
  obtain ⟨a, ha, e⟩ := List.getElem_of_mem hx
  have := h a ha
  rw [el_lt ha, e] at this
  rw [this]
  rfl
theorem apJ_length (T : List (List Int)) (i : Nat) : ∀ j, (apJ T i j).length ≤ j
  | 0 => by simp [apJ]
  | j + 1 => by
    have := apJ_length T i j
    rw [apJ]
    split
    · simp; omega
    · omega
theorem apS_length (T : List (List Int)) (M : Nat) : ∀ i, i ≤ M → (apS T i).length ≤ i * M
  | 0, _ => by simp [apS]
  | i + 1, h => by
    have h1 := apS_length T M i (by omega)
    have h2 := apJ_length T i i
    rw [apS, List.length_append, Nat.add_mul]
    omega
theorem apJ_mem {T : List (List Int)} {i : Nat} : ∀ {j : Nat} {p : Nat × Nat}, p ∈ apJ T i j → p.1 < j ∧ p.2 = i
  | 0, p, h => by simp [apJ] at h
  | j + 1, p, h => by
    rw [apJ] at h
    split at h
    · rcases List.mem_append.1 h with h | h
      · have := apJ_mem h; exact ⟨by omega, this.2⟩
      · rw [List.mem_singleton] at h; subst h; exact ⟨by simp, rfl⟩
    · have := apJ_mem h; exact ⟨by omega, this.2⟩
theorem apS_mem {T : List (List Int)} : ∀ {i : Nat} {p : Nat × Nat}, p ∈ apS T i → p.1 < i ∧ p.2 < i
  | 0, p, h => by simp [apS] at h
  | i + 1, p, h => by
    rw [apS] at h
    rcases List.mem_append.1 h with h | h
    · have := apS_mem h; omega
    · have := apJ_mem h; omega

set_option maxHeartbeats 1600000 in
theorem index_any (b off cap : Nat) (ys : List Int) (x : Int) (w : World) (hc : Cells w b off ys) (hl : ys.length ≤ 62) :
    Calls Tryd.prog 30 #[.slice (some ⟨b, off, none⟩) ys.length cap, .int .i64 x] w fun e w' => (∃ r : Int, e = .returned (.int .i64 r) ∧ ((r = -1 ∧ ys.contains x = false) ∨ (∃ i : Nat, r = (i : Int) ∧ ys.contains x = true))) ∧ w = w' := by
  have HC := Lib.hid hc
  obtain ⟨n, HN⟩ : ∃ n, Hid (n = ys.length) := ⟨_, rfl⟩
  rw [← HN.out] at hl
  rw [← HN.out]
  clear hc
  go_enter Tryd.func30, Tryd.ntmps30
  go_wp2_with fail
  go_loopw [8] (fun iv wr => ∃ j : Nat, j ≤ n ∧ iv = .int .i64 j ∧ Hid (∀ i, i < j → ¬ el ys i = x) ∧ w = wr) (fun iv _ => n - (intOf iv).toNat)
  case atStart => exact ⟨0, Nat.zero_le _, rfl, fun i h => by omega, rfl⟩
  case round =>
    obtain ⟨j, hj, rfl, HA, rfl⟩ := hrel
    by_cases hlt : (j : Int) < n
    · have hjn : j < n := by omega
      have hjy : j < ys.length := by rw [← HN.out]; exact hjn
      have hz := HC.out j hjy
      obtain ⟨z, HZ⟩ : ∃ z, Hid (z = el ys j) := ⟨_, rfl⟩
      rw [← HZ.out] at hz
      have hj0 : (0 : Int) ≤ j := by omega
      by_cases he : x = z
      · subst he
        have HY := Lib.hid (has_yes hjy HZ.out.symm)
        clear HZ
        go_wp2_with fail
        go_ret
        exact ⟨⟨_, rfl, .inr ⟨j, rfl, HY.out⟩⟩, rfl⟩
      · have HA1 : Hid (∀ i, i < j + 1 → ¬ el ys i = x) := fun i hi => by
          by_cases e : i = j
          · rw [e, ← HZ.out]; exact fun e => he e.symm
          · exact HA.out i (by omega)
        go_wp2_with fail
        go_roundw
        case rel => exact ⟨j + 1, by omega, by go_num, HA1, trivial⟩
        case measure => simp [intOf]; omega
    · obtain rfl : j = n := by omega
      go_wp2_with fail
      go_ret
      exact ⟨⟨_, rfl, .inl ⟨rfl, by have := has_no (x := x) (ys := ys) fun i hi => HA.out i (by rw [HN.out]; exact hi); simpa using this⟩⟩, rfl⟩

set_option maxHeartbeats 800000 in
theorem contains_any (b off cap : Nat) (ys : List Int) (x : Int) (w : World) (hc : Cells w b off ys) (hl : ys.length ≤ 62) :
    Calls Tryd.prog 24 #[.slice (some ⟨b, off, none⟩) ys.length cap, .int .i64 x] w fun e w' => e = .returned (.bool (ys.contains x)) ∧ w = w' := by
  have HI := Lib.hid (index_any b off cap ys x w hc hl)
  clear hc
  go_enter Tryd.func24, Tryd.ntmps24
  go_wp2_with fail
  refine HI.out.mono ?_
  rintro e w' ⟨⟨r, rfl, hr⟩, rfl⟩
  rcases hr with ⟨rfl, hr⟩ | ⟨i, rfl, hr⟩
  · have HR := Lib.hid hr
    clear hr HI
    go_wp2_with fail
    go_ret
    exact ⟨ret_bool HR.out.symm, rfl⟩
  · have HR := Lib.hid hr
    have hi0 : (0 : Int) ≤ i := by omega
    clear hr HI
    go_wp2_with fail
    go_ret
    exact ⟨ret_bool HR.out.symm, rfl⟩

set_option maxHeartbeats 3200000 in
theorem apart_any (g cap : Nat) (T : List (List Int)) (w : World) (hR : Rows w g 0 T) (hg : g < w.heap.size) (hcap : T.length ≤ cap) (hn : T.length ≤ 62) (hel : ∀ i, i < T.length → 1 ≤ (elS T i).length ∧ (elS T i).length ≤ 62) :
    Calls Tryd.prog 15 #[.slice (some ⟨g, 0, none⟩) T.length cap] w fun e w' => e = .returned (.map (some w.heap.size)) ∧ PS w' w.heap.size (apS T T.length) ∧ Below w.heap.size w w' := by
  have hmm := @run_makeMap Tryd.prog
  have D0 : Below w.heap.size w (w.alloc (.map #[] 0)) := (Below.refl _ _).alloc (Nat.le_refl _) _
  have HP0 : Hid (PS (w.alloc (.map #[] 0)) w.heap.size (apS T 0)) := PS.made w
  obtain ⟨W, hW⟩ : ∃ W, W = w.alloc (.map #[] 0) := ⟨_, rfl⟩
  rw [← hW] at D0 HP0
  have HSL : Hid (∀ (i : Nat) (wr : World), i < T.length → Below w.heap.size w wr → ∃ b off c, wr.cell? ⟨g, i, none⟩ = some (.slice (some ⟨b, off, none⟩) (elS T i).length c) ∧ Cells wr b off (elS T i)) := fun i wr hi hb => by
    obtain ⟨p, c, h1, h2⟩ := hR.below hg hb i hi
    rw [Nat.zero_add] at h1
    have h3 := (hel i hi).1
    rcases h2 with ⟨_, _, _, h0⟩ | ⟨b, off, cap, e, _, h5⟩
    · rw [h0] at h3; simp at h3
    · cases e
      exact ⟨b, off, c, h1, h5⟩
  have HEL := Lib.hid hel
  obtain ⟨n, HN⟩ : ∃ n, Hid (n = T.length) := ⟨_, rfl⟩
  rw [← HN.out] at hcap hn
  rw [← HN.out]
  clear hR hel
  go_enter Tryd.func15, Tryd.ntmps15
  go_wp2_with fail
  rw [← hW]
  clear hW hmm
  go_loopw [13] (fun iv wr => ∃ v : Nat, v ≤ n ∧ iv = .int .i64 v ∧ Hid (PS wr w.heap.size (apS T v)) ∧ Below w.heap.size w wr) (fun iv _ => n - (intOf iv).toNat)
  case atStart => exact ⟨0, Nat.zero_le _, rfl, HP0, D0⟩
  case round =>
    clear HP0 D0
    obtain ⟨v, hv, rfl, HP, hE⟩ := hrel
    by_cases hlt : (v : Int) < n
    · have hvn : v < n := by omega
      have hvt : v < T.length := by rw [← HN.out]; exact hvn
      obtain ⟨bx, ox, cx, hcx, hx⟩ := HSL.out v wr hvt hE
      obtain ⟨xs, HX⟩ : ∃ xs, Hid (xs = elS T v) := ⟨_, rfl⟩
      rw [← HX.out] at hcx
      have hxl := HEL.out v hvt
      rw [← HX.out] at hxl
      obtain ⟨lx, HLX⟩ : ∃ lx, Hid (lx = xs.length) := ⟨_, rfl⟩
      rw [← HLX.out] at hcx hxl
      have hv0 : (0 : Int) ≤ v := by omega
      have hvc : (v : Int) ≤ cap := by omega
      have HQ : Hid (PS wr w.heap.size (apS T v ++ apJ T v 0)) := by show PS _ _ _; rw [show apS T v ++ apJ T v 0 = apS T v from List.append_nil _]; exact HP.out
      have HXS : Hid (∀ (W : World), Below w.heap.size w W → Cells W bx ox xs ∧ W.cell? ⟨g, v, none⟩ = some (.slice (some ⟨bx, ox, none⟩) lx cx)) := fun W hW' => by
        obtain ⟨b, off, c, h1, h2⟩ := HSL.out v W hvt hW'
        have h3 : W.cell? ⟨g, v, none⟩ = w.cell? ⟨g, v, none⟩ := hW'.cell (p := ⟨g, v, none⟩) hg
        have h4 : wr.cell? ⟨g, v, none⟩ = w.cell? ⟨g, v, none⟩ := hE.cell (p := ⟨g, v, none⟩) hg
        have h5 : some (Value.slice (some ⟨b, off, none⟩) (elS T v).length c) = some (.slice (some ⟨bx, ox, none⟩) lx cx) := by rw [← h1, h3, ← h4, hcx]
        cases h5
        rw [HX.out]
        exact ⟨h2, h1⟩
      clear HP hx
      go_wp2_with fail
      apply wp_scope_straight
      apply wp_seq
      apply wp_label
      go_wp2_with fail
      go_loopw [22] (fun jv wr => ∃ j : Nat, j ≤ v ∧ jv = .int .i64 j ∧ Hid (PS wr w.heap.size (apS T v ++ apJ T v j)) ∧ Below w.heap.size w wr) (fun jv _ => v - (intOf jv).toNat)
      case atStart => exact ⟨0, Nat.zero_le _, rfl, HQ, hE⟩
      case round =>
        clear HQ hE hcx
        obtain ⟨j, hj, rfl, HQ, hE⟩ := hrel
        by_cases hjl : (j : Int) < v
        · have hjv : j < v := by omega
          have hjt : j < T.length := by omega
          obtain ⟨by', oy, cy, hcy, hy⟩ := HSL.out j wr hjt hE
          obtain ⟨ys, HY⟩ : ∃ ys, Hid (ys = elS T j) := ⟨_, rfl⟩
          rw [← HY.out] at hcy hy
          have hyl := HEL.out j hjt
          rw [← HY.out] at hyl
          have hcx := (HXS.out wr hE).1
          have HCX := Lib.hid hcx
          have hj0 : (0 : Int) ≤ j := by omega
          have hL1 := apS_length T 62 v (by omega)
          have hL2 := apJ_length T v j
          have hLL : (apS T v ++ apJ T v j).length < 1048576 := by rw [List.length_append]; omega
          have HJN := Lib.hid (fun W1 h => join_at w.heap.size (apS T v ++ apJ T v j) j v (j : Int) (v : Int) W1 h hLL (by omega) (by omega) rfl rfl)
          have HCN := Lib.hid (fun x => contains_any by' oy cy ys x wr hy hyl.2)
          obtain ⟨ly, HLY⟩ : ∃ ly, Hid (ly = ys.length) := ⟨_, rfl⟩
          rw [← HLY.out] at hcy hyl HCN
          clear hy hcx hL1 hL2 hLL
          go_wp2_with fail
          go_loopw [29] (fun av W => ∃ a : Nat, a ≤ lx ∧ av = .int .i64 a ∧ Hid (∀ i, i < a → ys.contains (el xs i) = false) ∧ wr = W) (fun av _ => lx - (intOf av).toNat)
          case atStart => exact ⟨0, Nat.zero_le _, rfl, fun i h => by omega, rfl⟩
          case round =>
            obtain ⟨a, ha, rfl, HA, rfl⟩ := hrel
            by_cases hal : (a : Int) < lx
            · have halx : a < xs.length := by rw [← HLX.out]; omega
              have hz := HCX.out a halx
              obtain ⟨z, HZ⟩ : ∃ z, Hid (z = el xs a) := ⟨_, rfl⟩
              rw [← HZ.out] at hz
              have HC1 := HCN.out z
              obtain ⟨bb, HB⟩ : ∃ bb, Hid (bb = ys.contains z) := ⟨_, rfl⟩
              rw [← HB.out] at HC1
              have HC2 := Lib.hid HC1
              have ha0 : (0 : Int) ≤ a := by omega
              clear HC1
              cases bb
              · have HA1 : Hid (∀ i, i < a + 1 → ys.contains (el xs i) = false) := fun i hi => by
                  by_cases e : i = a
                  · rw [e, ← HZ.out]; exact HB.out.symm
                  · exact HA.out i (by omega)
                go_wp2_with fail
                refine HC2.out.mono ?_
                rintro e w' ⟨rfl, rfl⟩
                clear HC2
                go_wp2_with fail
                go_roundw
                case rel => exact ⟨a + 1, by omega, by go_num, HA1, trivial⟩
                case measure => simp [intOf]; omega
              · have HNO : Hid (apart (elS T v) (elS T j) = false) := by
                  show _ = _
                  rw [← HX.out, ← HY.out]
                  exact apart_no halx (by rw [← HZ.out]; exact HB.out.symm)
                have HQ1 : Hid (PS wr w.heap.size (apS T v ++ apJ T v (j + 1))) := by show PS _ _ _; rw [apJ_no HNO.out]; exact HQ.out
                go_wp2_with fail
                refine HC2.out.mono ?_
                rintro e w' ⟨rfl, rfl⟩
                clear HC2 HJN HQ
                go_wp2_with fail
                go_roundw
                case rel => exact ⟨j + 1, by omega, by go_num, HQ1, hE⟩
                case measure => simp [intOf]; omega
            · obtain rfl : a = lx := by omega
              have HYES : Hid (apart (elS T v) (elS T j) = true) := by
                show _ = _
                rw [← HX.out, ← HY.out]
                exact apart_yes fun i hi => HA.out i (by rw [HLX.out]; exact hi)
              have HPJ : Hid (apS T v ++ apJ T v (j + 1) = (apS T v ++ apJ T v j) ++ [(j, v)]) := by show _ = _; rw [apJ_yes HYES.out, List.append_assoc]
              clear HYES
              go_wp2_with fail
              refine (HJN.out _ HQ.out).mono ?_
              rintro e w2 ⟨⟨v2, rfl⟩, hP2, hg2⟩
              have hE2 := hE.grown hg2 hE.size (fun j e => by cases e; exact Nat.le_refl _)
              have HP2 : Hid (PS w2 w.heap.size (apS T v ++ apJ T v (j + 1))) := by show PS _ _ _; rw [HPJ.out]; exact hP2
              clear hP2 hg2 HJN HQ hE
              go_wp2_with fail
              go_roundw
              case rel => exact ⟨j + 1, by omega, by go_num, HP2, hE2⟩
              case measure => simp [intOf]; omega
        · obtain rfl : j = v := by omega
          have HQ1 : Hid (PS wr w.heap.size (apS T (j + 1))) := HQ.out
          clear HQ
          go_wp2_with fail
          go_roundw
          case rel => exact ⟨j + 1, by omega, by go_num, HQ1, hE⟩
          case measure => simp [intOf]; omega
    · obtain rfl : v = n := by omega
      go_wp2_with fail
      go_ret
      exact ⟨rfl, HP.out, hE⟩
end Go.Proofs.YtapnlheecplpgaaDoor
