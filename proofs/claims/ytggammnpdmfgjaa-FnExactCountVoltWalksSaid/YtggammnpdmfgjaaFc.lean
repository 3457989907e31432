/-
  impl.IsFaithful. (A plain seat of bases and graphs of pairs.)
-/
import Derived.Test.YtggammnpdmfgjaaFb
namespace Go.Proofs.Ytggammnpdmfgjaa
open Go.RowKit

theorem stL_succ (m : Nat) (fs : List Int) (N : Nat) : stL m fs (N + 1) = stL m fs N ++ cellsT m fs N := by
  unfold stL
  rw [List.range_succ, List.flatMap_append]
  simp
theorem stL_len (m : Nat) (fs : List Int) : ∀ N, (stL m fs N).length = N * 4
  | 0 => rfl
  | N + 1 => by rw [stL_succ, List.length_append, stL_len m fs N]; simp [cellsT]; omega
theorem stL_at (m : Nat) (fs : List Int) {s d : Nat} (hd : d < 4) : ∀ {N}, s < N → (stL m fs N)[s * 4 + d]? = (cellsT m fs s)[d]?
  | 0, h => by omega
  | N + 1, h => by
    rw [stL_succ]
    by_cases e : s = N
    · subst e
      rw [List.getElem?_append_right (by rw [stL_len]; omega), stL_len, show s * 4 + d - s * 4 = d by omega]
    · rw [List.getElem?_append_left (by rw [stL_len]; omega)]
      exact stL_at m fs hd (show s < N by omega)
theorem four_cells {w : World} {k : Nat} {x y z u : Value} {t : TypeId} (h : w.heap[k]? = some (.cells #[x, y, z, u] t (0, 0))) : w.cell? ⟨k, 0, none⟩ = some x ∧ w.cell? ⟨k, 1, none⟩ = some y ∧ w.cell? ⟨k, 2, none⟩ = some z ∧ w.cell? ⟨k, 3, none⟩ = some u :=
  ⟨by rw [cell_of_row w k 0 _ _ _ h]; rfl, by rw [cell_of_row w k 1 _ _ _ h]; rfl, by rw [cell_of_row w k 2 _ _ _ h]; rfl, by rw [cell_of_row w k 3 _ _ _ h]; rfl⟩
/-- The cells of a step. -/
theorem step_cells {w w' : World} {B g m K s : Nat} {fs : List Int} (h : w.ownsRow B 68 4 (.slice (some ⟨g, 0, none⟩) K K) K (stL m fs K)) (hb : Below w.heap.size w w') (hs : s < K) :
    w'.cell? ⟨g, s * 4, none⟩ = some (.int .i64 s) ∧ w'.cell? ⟨g, s * 4 + 1, none⟩ = some (.int .i64 (stA m fs s 0)) ∧ w'.cell? ⟨g, s * 4 + 2, none⟩ = some (.int .i64 (stA m fs s 1)) ∧ w'.cell? ⟨g, s * 4 + 3, none⟩ = some (.int .i64 (stA m fs s 2)) := by
  have h' := ownsT_below h hb
  refine ⟨(World.ownsRow.cellAt h' (s * 4) (by omega)).trans ?_, (World.ownsRow.cellAt h' (s * 4 + 1) (by omega)).trans ?_, (World.ownsRow.cellAt h' (s * 4 + 2) (by omega)).trans ?_, (World.ownsRow.cellAt h' (s * 4 + 3) (by omega)).trans ?_⟩
  · have := stL_at m fs (show 0 < 4 by omega) hs; rw [Nat.add_zero] at this; rw [this]; rfl
  · rw [stL_at m fs (show 1 < 4 by omega) hs]; rfl
  · rw [stL_at m fs (show 2 < 4 by omega) hs]; rfl
  · rw [stL_at m fs (show 3 < 4 by omega) hs]; rfl

/-- Whether the lift is faithful, and the code. -/
def FaB (n m : Int) (k : Nat) (fs : List Int) : Bool := isB n m k fs && fthO m.toNat fs k
def FaC (n m : Int) (k : Nat) (fs : List Int) : Int := if isB n m k fs then 0 else 1

set_option maxHeartbeats 800000 in
theorem implFa_no (n m : Int) (v : Value) (k : Nat) (fs : List Int) (w : World) (hs : Sa w v k fs) (hl : k ≤ 9223372036854775807) (hg : isB n m k fs = false) :
    Calls Try.prog 17 #[.agg #[.int .i64 n, .int .i64 m, v]] w fun e w' => e = .returned (.tuple #[.bool false, .int .i64 1]) ∧ Below w.heap.size w w' := by
  have D0 : Below w.heap.size w (w.alloc (.cells #[.int .i64 n, .int .i64 m, v] 33)) := (Below.refl _ _).alloc (Nat.le_refl _) _
  have his := implIs_any n m v k fs (w.alloc (.cells #[.int .i64 n, .int .i64 m, v] 33)) (hs.below D0) hl
  rw [hg] at his
  clear hs hg
  go_enter Try.func17, Try.ntmps17
  go_wp2_with (go_at_call 26; refine his.mono ?_; rintro e w1 ⟨rfl, hb1⟩)
  go_ret2
  exact ⟨rfl, D0.trans (hb1.mono (by simp))⟩

set_option maxRecDepth 100000 in
set_option maxHeartbeats 3200000 in
theorem implFa_yes (n m k cap : Nat) (sa : Option Addr) (fs : List Int) (w : World) (hs : Sa w (.slice sa k cap) k fs) (hg : isB n m k fs = true) (hav : AvOk n m k fs) (h1 : n ≤ 10 ∧ m ≤ 62 ∧ k ≤ 16) :
    Calls Try.prog 17 #[.agg #[.int .i64 n, .int .i64 m, .slice sa k cap]] w fun e w' => e = .returned (.tuple #[.bool (fthO m fs k), .int .i64 0]) ∧ Below w.heap.size w w' := by
  have D0 : Below w.heap.size w (w.alloc (.cells #[.int .i64 n, .int .i64 m, .slice sa k cap] 33)) := (Below.refl _ _).alloc (Nat.le_refl _) _
  have his := implIs_any n m (.slice sa k cap) k fs (w.alloc (.cells #[.int .i64 n, .int .i64 m, .slice sa k cap] 33)) (hs.below D0) (by omega)
  rw [hg] at his
  have HG0 := Lib.hid (World.alloc_heap_new w (.cells #[.int .i64 n, .int .i64 m, .slice sa k cap] 33))
  obtain ⟨W0, hW0⟩ : ∃ W0, W0 = w.alloc (.cells #[.int .i64 n, .int .i64 m, .slice sa k cap] 33) := ⟨_, rfl⟩
  have sz0 : w.heap.size + 1 ≤ W0.heap.size := by rw [hW0]; simp
  rw [← hW0] at HG0 D0 his
  have HIS := Lib.hid his
  have HST : Hid (∀ W1 : World, Below W0.heap.size W0 W1 → Calls Try.prog 35 #[.agg #[.int .i64 n, .int .i64 m, .slice sa k cap]] W1 fun e w' => e = .returned (.slice (some ⟨W1.heap.size + 1, 0, none⟩) (2 * k) (2 * k)) ∧ Hid (w'.ownsRow (W1.heap.size + 1) 68 4 (.slice (some ⟨W1.heap.size + 1, 0, none⟩) (2 * k) (2 * k)) (2 * k) (stL m fs (2 * k))) ∧ Below W1.heap.size W1 w') := fun W1 h =>
    stepsOf_any n m k cap sa fs W1 (hs.below (D0.trans (h.mono (by omega)))) hav h1
  have HFI : Hid (fthO m fs k = true ↔ ∀ s, s < 2 * k → ndI m fs s s) := faith_iff hav
  obtain ⟨F, hF⟩ : ∃ F, F = fthO m fs k := ⟨_, rfl⟩
  obtain ⟨K, hK⟩ : ∃ K, K = 2 * k := ⟨_, rfl⟩
  rw [← hF] at HFI ⊢
  rw [← hK] at HFI HST
  have K32 : K ≤ 32 := by omega
  obtain ⟨⟨b0, b1, b2⟩, -⟩ := three_cells HG0.out
  clear hs hg hav his hF hK h1
  go_enter Try.func17, Try.ntmps17
  go_upto_region 1 with fail
  rw [← hW0]
  clear hW0
  go_wp2_with fail
  refine HIS.out.mono ?_
  rintro e w1 ⟨rfl, hb1⟩
  have hst := Lib.hid (HST.out w1 hb1)
  have E1 := D0.trans (hb1.mono (by omega))
  have s1 := hb1.size
  obtain ⟨⟨b0, b1, b2⟩, -⟩ := three_cells ((hb1.block w.heap.size (by omega)).trans HG0.out)
  clear HIS HST hb1 HG0
  go_wp2_with fail
  refine hst.out.mono ?_
  rintro e w2 ⟨rfl, HO, hb2⟩
  clear hst b0 b1 b2
  obtain ⟨G, hG⟩ : ∃ G, G = w1.heap.size + 1 := ⟨_, rfl⟩
  rw [← hG] at HO ⊢
  have E2 := E1.trans (hb2.mono (by omega))
  have s2 := hb2.size
  clear hG hb2 E1
  go_wp2_with fail
  go_loopw [16] (fun i wr => ∃ s : Nat, s ≤ K ∧ i = .int .i64 s ∧ Hid (∀ y, y < s → ndI m fs y y) ∧ Below w2.heap.size w2 wr) (fun i _ => K - (intOf i).toNat)
  case atStart => exact ⟨0, Nat.zero_le _, rfl, fun y hy => by omega, Below.refl _ _⟩
  case round =>
    obtain ⟨s, hsK, rfl, HN, hE⟩ := hrel
    obtain ⟨wo, rfl⟩ : ∃ wo : World, wo = wr := ⟨_, rfl⟩
    by_cases hlt : s < K
    · have hlti : (s : Int) < K := by omega
      have hlei : (s : Int) ≤ K := by omega
      have hs0 : (0 : Int) ≤ s := by omega
      obtain ⟨z0, z1, z2, z3⟩ := step_cells HO.out hE hlt
      obtain ⟨a0, ha0⟩ : ∃ a0, a0 = stA m fs s 0 := ⟨_, rfl⟩
      obtain ⟨a1, ha1⟩ : ∃ a1, a1 = stA m fs s 1 := ⟨_, rfl⟩
      obtain ⟨a2, ha2⟩ : ∃ a2, a2 = stA m fs s 2 := ⟨_, rfl⟩
      rw [← ha0] at z1
      rw [← ha1] at z2
      rw [← ha2] at z3
      have HA0 := Lib.hid ha0; have HA1 := Lib.hid ha1; have HA2 := Lib.hid ha2
      have g5 : IntKind.i64.wrap ((s : Int) + 1) = (s : Int) + 1 := IntWalk.i64_in _ (by omega)
      have hso := hE.size
      clear ha0 ha1 ha2
      go_upto_region 7 with fail
      obtain ⟨w6, h6⟩ : ∃ w6, w6 = wo.alloc (.cells #[.int .i64 s, .int .i64 a0, .int .i64 a1, .int .i64 a2] 68) := ⟨_, rfl⟩
      have X6 : Hid (w6.heap[wo.heap.size]? = some (.cells #[.int .i64 s, .int .i64 a0, .int .i64 a1, .int .i64 a2] 68 (0, 0))) := by rw [h6]; exact World.alloc_heap_new wo _
      have hE6 : Below w2.heap.size w2 w6 := by rw [h6]; exact hE.alloc hE.size _
      have s6 : wo.heap.size + 1 ≤ w6.heap.size := by rw [h6]; simp
      rw [← h6]
      clear h6 z0 z1 z2 z3 hE
      go_wp2_with fail
      go_loopw [25] (fun i wr => ∃ x : Nat, x ≤ s ∧ i = .int .i64 x ∧ Hid (ndI m fs s x) ∧ Below w2.heap.size w2 wr ∧ Hid (wr.heap[wo.heap.size]? = some (.cells #[.int .i64 s, .int .i64 a0, .int .i64 a1, .int .i64 a2] 68 (0, 0)))) (fun i _ => s - (intOf i).toNat)
      case atStart => exact ⟨0, Nat.zero_le _, rfl, fun y hy => by omega, hE6, X6⟩
      case round =>
        clear X6 hE6
        obtain ⟨x, hxs, rfl, HNX, hE, HX⟩ := hrel
        by_cases hxl : x < s
        · have hxli : (x : Int) < s := by omega
          have hx0 : (0 : Int) ≤ x := by omega
          obtain ⟨z0, z1, z2, z3⟩ := step_cells HO.out hE (show x < K by omega)
          obtain ⟨y0, y1, y2, y3⟩ := four_cells HX.out
          have hsx : wo.heap.size + 1 ≤ wr.heap.size := (Array.getElem?_eq_some_iff.1 HX.out).1
          obtain ⟨c0, hc0⟩ : ∃ c0, c0 = stA m fs x 0 := ⟨_, rfl⟩
          obtain ⟨c1, hc1⟩ : ∃ c1, c1 = stA m fs x 1 := ⟨_, rfl⟩
          obtain ⟨c2, hc2⟩ : ∃ c2, c2 = stA m fs x 2 := ⟨_, rfl⟩
          rw [← hc0] at z1
          rw [← hc1] at z2
          rw [← hc2] at z3
          have g6 : IntKind.i64.wrap ((x : Int) + 1) = (x : Int) + 1 := IntWalk.i64_in _ (by omega)
          have HST : Hid (stE m fs s x ↔ a0 = c0 ∧ a1 = c1 ∧ a2 = c2) := by show _ ↔ _; rw [HA0.out, HA1.out, HA2.out, hc0, hc1, hc2]; rfl
          have hwo := hE.size
          clear hc0 hc1 hc2
          go_upto_region 10 with fail
          obtain ⟨w7, h7⟩ : ∃ w7, w7 = wr.alloc (.cells #[.int .i64 x, .int .i64 c0, .int .i64 c1, .int .i64 c2] 68) := ⟨_, rfl⟩
          have X7 : Hid (w7.heap[wr.heap.size]? = some (.cells #[.int .i64 x, .int .i64 c0, .int .i64 c1, .int .i64 c2] 68 (0, 0))) := by rw [h7]; exact World.alloc_heap_new wr _
          have X67 : Hid (w7.heap[wo.heap.size]? = some (.cells #[.int .i64 s, .int .i64 a0, .int .i64 a1, .int .i64 a2] 68 (0, 0))) := by show _ = _; rw [h7]; exact heap_old_at HX.out _
          have hE7 : Below w2.heap.size w2 w7 := by rw [h7]; exact hE.alloc hE.size _
          rw [← h7]
          clear h7 z0 z1 z2 z3 y0 y1 y2 y3 hE HX
          obtain ⟨y0, y1, y2, y3⟩ := four_cells X67.out
          obtain ⟨v0, v1, v2, v3⟩ := four_cells X7.out
          have hnx : ¬ (a0 = c0 ∧ a1 = c1 ∧ a2 = c2) → Hid (ndI m fs s (x + 1)) := fun h y hy => by
            by_cases e : y = x
            · rw [e]; exact fun h' => h (HST.out.1 h')
            · exact HNX.out y (by omega)
          have hyes : a0 = c0 ∧ a1 = c1 ∧ a2 = c2 → Hid (F = false) := fun h => by
            cases hF : F with
            | false => rfl
            | true => exact absurd (HST.out.2 h) (HFI.out.1 hF s (by omega) x hxl)
          clear HFI HST
          by_cases h0 : a0 = c0
          · by_cases h1 : a1 = c1
            · by_cases h2 : a2 = c2
              · have HF := hyes ⟨h0, h1, h2⟩
                subst h0; subst h1; subst h2
                clear hnx hyes
                go_wp2_with fail
                go_ret2
                rw [HF.out]
                exact ⟨rfl, E2.trans (hE7.mono (by omega))⟩
              · have HX1 := hnx (fun h => h2 h.2.2)
                have t2 : ¬ (a2 : Int) = (c2 : Int) := by omega
                subst h0; subst h1
                clear hnx hyes
                go_wp2_with fail
                first
                  | exact ⟨⟨x + 1, by omega, by push_cast; rfl, HX1, hE7, X67⟩, by simp [intOf]; omega⟩
                  | (go_roundw
                     case rel => exact ⟨x + 1, by omega, by go_num, HX1, hE7, X67⟩
                     case measure => simp [intOf]; omega)
            · have HX1 := hnx (fun h => h1 h.2.1)
              have t1 : ¬ (a1 : Int) = (c1 : Int) := by omega
              subst h0
              clear hnx hyes
              go_wp2_with fail
              first
                | exact ⟨⟨x + 1, by omega, by push_cast; rfl, HX1, hE7, X67⟩, by simp [intOf]; omega⟩
                | (go_roundw
                   case rel => exact ⟨x + 1, by omega, by go_num, HX1, hE7, X67⟩
                   case measure => simp [intOf]; omega)
          · have HX1 := hnx (fun h => h0 h.1)
            have t0 : ¬ (a0 : Int) = (c0 : Int) := by omega
            clear hnx hyes
            go_wp2_with fail
            first
              | exact ⟨⟨x + 1, by omega, by push_cast; rfl, HX1, hE7, X67⟩, by simp [intOf]; omega⟩
              | (go_roundw
                 case rel => exact ⟨x + 1, by omega, by go_num, HX1, hE7, X67⟩
                 case measure => simp [intOf]; omega)
        · obtain rfl : x = s := by omega
          have HN2 : Hid (∀ y, y < x + 1 → ndI m fs y y) := fun y hy => by
            by_cases e : y = x
            · rw [e]; exact HNX.out
            · exact HN.out y (by omega)
          clear HX
          go_wp2_with fail
          refine ⟨⟨x + 1, by omega, by push_cast; rfl, HN2, hE⟩, by simp [intOf]; omega⟩
    · obtain rfl : s = K := by omega
      have HF : Hid (F = true) := HFI.out.2 HN.out
      clear HFI
      go_wp2_with fail
      go_ret2
      rw [HF.out]
      exact ⟨rfl, E2.trans (hE.mono (by omega))⟩

theorem implFa_any (n m : Int) (v : Value) (k : Nat) (fs : List Int) (w : World) (hs : Sa w v k fs) (hl : k ≤ 9223372036854775807) :
    Calls Try.prog 17 #[.agg #[.int .i64 n, .int .i64 m, v]] w fun e w' => e = .returned (.tuple #[.bool (FaB n m k fs), .int .i64 (FaC n m k fs)]) ∧ Below w.heap.size w w' := by
  unfold FaB FaC
  cases hg : isB n m k fs
  · exact implFa_no n m v k fs w hs hl hg
  · obtain ⟨N, M, rfl, rfl, _, h2, _, h4, _, h6, hav⟩ := isB_nats hg
    simp only [if_true, Int.toNat_natCast, Bool.true_and]
    have hf := hs.form
    obtain ⟨sa, cap, rfl⟩ : ∃ sa cap, v = .slice sa k cap := ⟨_, _, hf⟩
    exact implFa_yes N M k cap sa fs w hs hg hav ⟨h2, h4, h6⟩
end Go.Proofs.Ytggammnpdmfgjaa
