/-
  spec.WordGirth. (A tied seat of groups.)
-/
import Derived.Test.YtklgimikdnokcaaDoorVc
namespace Go.Proofs.YtklgimikdnokcaaDoor
set_option maxRecDepth 100000
open Go.RowKit

/-- The word girth, and the code. -/
noncomputable def wgV (a b : Int) (js : List Int) : Int := if giC a b js = 0 then (wgG a.toNat b.toNat js 1 15 : Nat) else 0
noncomputable def wgC (a b : Int) (js : List Int) : Int := if giC a b js = 0 then (if wgG a.toNat b.toNat js 1 15 = 0 then 4 else 0) else giC a b js
theorem wgV_no {a b : Int} {js : List Int} (h : giC a b js ≠ 0) : wgV a b js = 0 := if_neg h
theorem wgC_no {a b : Int} {js : List Int} (h : giC a b js ≠ 0) : wgC a b js = giC a b js := if_neg h
theorem wgV_yes {k p : Nat} {js : List Int} (h : giC k p js = 0) : wgV k p js = (wgG k p js 1 15 : Nat) := by unfold wgV; rw [if_pos h, Int.toNat_natCast, Int.toNat_natCast]
theorem wgC_yes {k p : Nat} {js : List Int} (h : giC k p js = 0) : wgC k p js = if wgG k p js 1 15 = 0 then 4 else 0 := by unfold wgC; rw [if_pos h, Int.toNat_natCast, Int.toNat_natCast]
theorem set_len {k p : Nat} {js : List Int} (h : gOk k p = true) (hq : clE k p js = js) : js.length ≤ 62 := by
  have := clE_length (js := js) h
  rw [hq] at this; omega
theorem l05Girth_any (k p : Nat) (v : Value) (js : List Int) (w : World) (h : gOk k p = true) (hj : elOk (gOrd k p) js js.length = true) (hs : Sl w v js) (hl : js.length ≤ 62) :
    Calls Tryd.prog 48 #[gv k p, v] w fun e w' => e = .returned (.int .i64 (wgG k p js 1 15 : Nat)) ∧ Below w.heap.size w w' := by
  rcases hs with ⟨a, c, rfl, rfl⟩ | ⟨b, off, cap, rfl, hb, hc⟩
  · exact l05Girth_near k p c a [] w h hj (.inl rfl) (by simp)
  · exact l05Girth_near k p cap _ js w h hj (.inr ⟨b, off, rfl, hb, hc⟩) hl

set_option maxHeartbeats 800000 in
theorem specWg_no (a b : Int) (v : Value) (zs : List Int) (w : World) (hs : Sl w v zs) (hl : zs.length ≤ 9223372036854775807) (h : giC a b zs ≠ 0) :
    Calls Tryd.prog 27 #[gv a b, v] w fun e w' => e = .returned (.tuple #[.int .i64 0, .int .i64 (giC a b zs)]) ∧ Below w.heap.size w w' := by
  have D0 : Below w.heap.size w (w.alloc (.cells #[.int .i64 a, .int .i64 b] 27)) := (Below.refl _ _).alloc (Nat.le_refl _) _
  have hc := l05Given_any a b v zs (w.alloc (.cells #[.int .i64 a, .int .i64 b] 27)) (hs.below D0) hl
  obtain ⟨c, hcc⟩ : ∃ c, c = giC a b zs := ⟨_, rfl⟩
  rw [← hcc] at hc h ⊢
  have e0 : (c == 0) = false := by simpa using h
  clear hcc h hs
  unfold gv at *
  go_enter Tryd.func27, Tryd.ntmps27
  go_wp2_with (go_at_call 36; with_reducible refine hc.mono ?_; rintro e w1 ⟨rfl, hb⟩)
  go_ret2
  exact ⟨rfl, D0.trans (hb.mono D0.size)⟩

set_option maxHeartbeats 1600000 in
theorem specWg_yes (k p : Nat) (v : Value) (zs : List Int) (w : World) (hs : Sl w v zs) (hl : zs.length ≤ 62) (h : gOk k p = true) (hj : elOk (gOrd k p) zs zs.length = true) (hgi : giC k p zs = 0) :
    Calls Tryd.prog 27 #[gv k p, v] w fun e w' => e = .returned (.tuple #[.int .i64 (wgG k p zs 1 15 : Nat), .int .i64 (if wgG k p zs 1 15 = 0 then 4 else 0)]) ∧ Below w.heap.size w w' := by
  have D0 : Below w.heap.size w (w.alloc (.cells #[.int .i64 k, .int .i64 p] 27)) := (Below.refl _ _).alloc (Nat.le_refl _) _
  have HB0 := Lib.hid (World.alloc_heap_new w (.cells #[.int .i64 k, .int .i64 p] 27))
  have hc := l05Given_any k p v zs (w.alloc (.cells #[.int .i64 k, .int .i64 p] 27)) (hs.below D0) (by omega)
  rw [hgi] at hc
  have HCL := Lib.hid (fun W hsw => l05Girth_any k p v zs W h hj hsw hl)
  have HS := Lib.hid (hs.below D0)
  obtain ⟨G, hG⟩ : ∃ G, G = wgG k p zs 1 15 := ⟨_, rfl⟩
  rw [← hG] at HCL ⊢
  clear hs h hj hG hgi
  simp only [gv] at *
  by_cases hz : G = 0
  · subst hz
    rw [if_pos rfl]
    simp only [Int.natCast_zero] at HCL
    go_enter Tryd.func27, Tryd.ntmps27
    go_wp2_with fail
    refine hc.mono ?_
    rintro e w1 ⟨rfl, hb⟩
    have s1 := hb.size
    have hs1 := HS.out.below hb
    rw [World.size_alloc] at hb s1
    obtain ⟨r0, r1, -, -⟩ := two_cells ((hb.block w.heap.size (by omega)).trans HB0.out)
    go_wp2_with fail
    refine (HCL.out w1 hs1).mono ?_
    rintro e w2 ⟨rfl, hb2⟩
    have E2 := D0.trans ((hb.trans (hb2.mono s1)).mono (by omega))
    clear hb hb2 hs1 hc
    go_wp2_with fail
    go_ret2
    exact ⟨rfl, E2⟩
  · rw [if_neg hz]
    have e0 : ((G : Int) == 0) = false := by simp; omega
    clear hz
    go_enter Tryd.func27, Tryd.ntmps27
    go_wp2_with fail
    refine hc.mono ?_
    rintro e w1 ⟨rfl, hb⟩
    have s1 := hb.size
    have hs1 := HS.out.below hb
    rw [World.size_alloc] at hb s1
    obtain ⟨r0, r1, -, -⟩ := two_cells ((hb.block w.heap.size (by omega)).trans HB0.out)
    go_wp2_with fail
    refine (HCL.out w1 hs1).mono ?_
    rintro e w2 ⟨rfl, hb2⟩
    have E2 := D0.trans ((hb.trans (hb2.mono s1)).mono (by omega))
    clear hb hb2 hs1 hc
    go_wp2_with fail
    go_ret2
    exact ⟨rfl, E2⟩

theorem specWg_any (a b : Int) (v : Value) (zs : List Int) (w : World) (hs : Sl w v zs) (hl : zs.length ≤ 9223372036854775807) :
    Calls Tryd.prog 27 #[gv a b, v] w fun e w' => e = .returned (.tuple #[.int .i64 (wgV a b zs), .int .i64 (wgC a b zs)]) ∧ Below w.heap.size w w' := by
  by_cases h : giC a b zs = 0
  · obtain ⟨k, p, rfl, rfl, hg, hj, hq⟩ := giC_zero h
    rw [wgV_yes h, wgC_yes h]
    exact specWg_yes k p v zs w hs (set_len hg hq) hg hj h
  · rw [wgV_no h, wgC_no h]
    exact specWg_no a b v zs w hs hl h
end Go.Proofs.YtklgimikdnokcaaDoor
