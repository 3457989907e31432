/-
  spec.l01Parts, and IsConnected on both sides.
-/
import Derived.Test.YtbpcdgfcdahnlaaDoorLw
import Derived.Test.YtbpcdgfcdahnlaaDoorDm
namespace Go.Proofs.YtbpcdgfcdahnlaaDoor
set_option maxRecDepth 100000
open Go.RowKit

set_option maxHeartbeats 1600000 in
theorem parts_some (b off cap : Nat) (zs : List Int) (w : World) (hb : b < w.heap.size) (hc : Cells w b off zs) (hg : isG zs.length zs = true) :
    Calls Tryd.prog 60 #[.agg #[.int .i64 zs.length, .slice (some ⟨b, off, none⟩) zs.length cap]] w fun e w' => ∃ p : Nat, e = .returned (.int .i64 p) ∧ (p = 1 ↔ connB zs = true) ∧ Below w.heap.size w w' := by
  obtain ⟨p1, p2, -, -, -⟩ := isG_parts hg
  have hm62 : zs.length ≤ 62 := by omega
  have hpz : 0 < zs.length := by omega
  have D0 : Below w.heap.size w (w.alloc (.cells #[.int .i64 zs.length, .slice (some ⟨b, off, none⟩) zs.length cap] 28)) := (Below.refl _ _).alloc (Nat.le_refl _) _
  have HG0 := Lib.hid (GBox.new (n := zs.length) (cap := cap) hb hc)
  have hld := leaders_some b off cap zs (w.alloc (.cells #[.int .i64 zs.length, .slice (some ⟨b, off, none⟩) zs.length cap] 28)) (Nat.lt_of_lt_of_le hb D0.size) (hc.below D0 hb) hg
  clear hg hc
  go_enter Tryd.func60, Tryd.ntmps60
  go_wp2_with fail
  refine hld.mono ?_
  rintro e w1 ⟨u, D, rfl, hO, hL, hb1⟩
  have E1 := Lib.hid (D0.trans (hb1.mono (by simp)))
  obtain ⟨gd, cd, rfl⟩ : ∃ gd cd, u = .slice (some ⟨gd, 0, none⟩) zs.length cd := by
    rcases hO.form with ⟨_, h0⟩ | ⟨gd, cd, h1, h2, h3⟩
    · have h4 := congrArg List.length h0
      rw [hL.len, List.length_nil] at h4
      omega
    · rw [hL.len] at h1
      exact ⟨gd, cd, h1⟩
  have HCD : Hid (∀ k, k < zs.length → w1.cell? ⟨gd, k, none⟩ = some (.int .i64 (el D k))) := fun k hk => by
    have h := hO
    unfold Own at h; rw [hL.len] at h
    exact (World.ownsRow.cellAt h k (by omega)).trans (map_at _ k (by rw [hL.len]; omega))
  have G1 := HG0.out.below (hb1.mono (by simp))
  have b0 := G1.b0
  have HP := Lib.hid (hL.parts hpz)
  clear hb1 hld hO hL
  go_wp2
  go_loop [4, 5] (fun c i => ∃ k : Nat, k ≤ zs.length ∧ i = .int .i64 k ∧ c = .int .i64 (ownC D k)) (fun _ i => zs.length - (intOf i).toNat)
  case atStart => exact ⟨0, Nat.zero_le _, rfl, rfl⟩
  case round =>
    obtain ⟨k, hk, rfl, rfl⟩ := hrel
    obtain ⟨a, ha⟩ : ∃ a, a = ownC D k := ⟨_, rfl⟩
    have hak := ownC_le D k
    rw [← ha] at hak ⊢
    by_cases hlt : (k : Int) < zs.length
    · have hkl : k < zs.length := by omega
      have hk0 : (0 : Int) ≤ k := by omega
      obtain ⟨d, hd⟩ : ∃ d, d = el D k := ⟨_, rfl⟩
      have hcell : w1.cell? ⟨gd, k, none⟩ = some (.int .i64 d) := by rw [hd]; exact HCD.out k hkl
      have HS := Lib.hid (ownC_succ D k)
      by_cases he : d = (k : Int)
      · have t1 : (d == (k : Int)) = true := by rw [beq_iff_eq]; exact he
        have HN : Hid (ownC D (k + 1) = a + 1) := by show ownC D (k + 1) = _; rw [HS.out, ← ha, if_pos (by rw [← hd]; exact he)]
        have hw : IntKind.i64.wrap ((a : Int) + 1) = (a : Int) + 1 := IntWalk.i64_in _ ⟨by omega, by omega⟩
        clear he hd ha
        go_wp2
        go_round
        case rel => exact ⟨k + 1, by omega, by go_num, congrArg (Value.int .i64) (by rw [HN.out]; omega)⟩
        case measure => simp [intOf]; omega
      · have t1 : (d == (k : Int)) = false := by rw [beq_eq_false_iff_ne]; exact he
        have HN : Hid (ownC D (k + 1) = a) := by show ownC D (k + 1) = _; rw [HS.out, ← ha, if_neg (by rw [← hd]; exact he)]; rfl
        clear he hd ha
        go_wp2
        go_round
        case rel => exact ⟨k + 1, by omega, by go_num, congrArg (Value.int .i64) (by rw [HN.out])⟩
        case measure => simp [intOf]; omega
    · have hkl : k = zs.length := by omega
      have HQ : Hid (a = 1 ↔ connB zs = true) := by show _ ↔ _; rw [ha, hkl]; exact HP.out
      clear ha
      go_wp2
      go_ret
      exact ⟨a, rfl, HQ.out, E1.out⟩

def cnD (n : Int) (zs : List Int) : Bool := if isG n zs then connB zs else false
set_option maxHeartbeats 800000 in
theorem specConn_yes (b off cap : Nat) (zs : List Int) (w : World) (hb : b < w.heap.size) (hc : Cells w b off zs) (hg : isG zs.length zs = true) (hl : zs.length ≤ 9223372036854775807) :
    Calls Tryd.prog 31 #[.agg #[.int .i64 zs.length, .slice (some ⟨b, off, none⟩) zs.length cap]] w fun e w' => e = .returned (.tuple #[.bool (connB zs), .int .i64 0]) ∧ Below w.heap.size w w' := by
  have D0 : Below w.heap.size w (w.alloc (.cells #[.int .i64 zs.length, .slice (some ⟨b, off, none⟩) zs.length cap] 28)) := (Below.refl _ _).alloc (Nat.le_refl _) _
  have his := l01Is_some zs.length b off cap zs _ (Nat.lt_of_lt_of_le hb D0.size) (hc.below D0 hb) hl
  rw [hg] at his
  have HG0 := Lib.hid (GBox.new (n := zs.length) (cap := cap) hb hc)
  have HG := Lib.hid hg
  clear hg hc
  go_enter Tryd.func31, Tryd.ntmps31
  go_wp2_with (first | (go_at_call 52; with_reducible refine his.mono ?_; rintro e w1 ⟨rfl, hb1⟩; have G1 := HG0.out.below (hb1.mono (by simp)); have b0 := G1.b0; have b1 := G1.b1))
  have D1 := D0.trans (hb1.mono (by simp))
  have hpt := parts_some b off cap zs w1 G1.lb G1.cells HG.out
  clear his hb1
  refine hpt.mono ?_
  rintro e w2 ⟨p, rfl, hp, hb2⟩
  have D2 := D1.trans (hb2.mono D1.size)
  have HF : Hid (((p : Int) == 1) = connB zs) := by
    show _ = _
    rw [Bool.eq_iff_iff, beq_iff_eq, ← hp]; omega
  clear hp hpt hb2
  go_wp2
  go_ret2
  exact ⟨by rw [← HF.out]; rfl, D2⟩
set_option maxHeartbeats 400000 in
theorem specConn_no (n : Int) (v : Value) (zs : List Int) (w : World) (h : Sl w v zs) (hg : isG n zs = false) (hl : zs.length ≤ 9223372036854775807) :
    Calls Tryd.prog 31 #[.agg #[.int .i64 n, v]] w fun e w' => e = .returned (.tuple #[.bool false, .int .i64 1]) ∧ Below w.heap.size w w' := by
  have D0 : Below w.heap.size w (w.alloc (.cells #[.int .i64 n, v] 28)) := (Below.refl _ _).alloc (Nat.le_refl _) _
  have his := l01Is_any n v zs _ (h.below D0) hl
  rw [hg] at his
  clear hg h
  go_enter Tryd.func31, Tryd.ntmps31
  go_wp2_with (go_at_call 52; refine his.mono ?_; rintro e w1 ⟨rfl, hb1⟩)
  go_ret2
  exact ⟨rfl, D0.trans (hb1.mono (by simp))⟩
theorem specConn_any (n : Int) (v : Value) (zs : List Int) (w : World) (h : Sl w v zs) (hl : zs.length ≤ 9223372036854775807) :
    Calls Tryd.prog 31 #[.agg #[.int .i64 n, v]] w fun e w' => e = .returned (.tuple #[.bool (cnD n zs), .int .i64 (DC n zs)]) ∧ Below w.heap.size w w' := by
  cases hg : isG n zs
  · rw [show cnD n zs = false by simp [cnD, hg], show DC n zs = 1 by simp [DC, hg]]
    exact specConn_no n v zs w h hg hl
  · rw [show cnD n zs = connB zs by simp [cnD, hg], show DC n zs = 0 by simp [DC, hg]]
    obtain ⟨b, off, cap, rfl, hb, hc⟩ := sl_some h (by have := (isG_parts hg).2.2.1; have := (isG_parts hg).1; omega)
    obtain rfl : (zs.length : Int) = n := (isG_parts hg).2.2.1
    exact specConn_yes b off cap zs w hb hc hg hl
theorem implConn_any (n : Int) (v : Value) (zs : List Int) (w : World) (h : Sl w v zs) (hl : zs.length ≤ 9223372036854775807) (hT : Tab w) :
    Calls Tryd.prog 32 #[.agg #[.int .i64 n, v]] w fun e w' => e = .returned (.tuple #[.bool (cnD n zs), .int .i64 (DC n zs)]) ∧ Below w.heap.size w w' := by
  cases hg : isG n zs
  · rw [show cnD n zs = false by simp [cnD, hg], show DC n zs = 1 by simp [DC, hg]]
    exact implConn_no n v zs w h hg hl hT
  · rw [show cnD n zs = connB zs by simp [cnD, hg], show DC n zs = 0 by simp [DC, hg]]
    obtain ⟨b, off, cap, rfl, hb, hc⟩ := sl_some h (by have := (isG_parts hg).2.2.1; have := (isG_parts hg).1; omega)
    exact implConn_yes n b off cap zs w hb hc hg hl hT
end Go.Proofs.YtbpcdgfcdahnlaaDoor
