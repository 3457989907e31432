/-
  impl.DoubleGraph and its closure. (A tied seat of graphs.)
-/
import Derived.Test.YtlodaeoikkjbkaaDoorKs
import Derived.Test.YtlodaeoikkjbkaaDoorDeg
namespace Go.Proofs.YtlodaeoikkjbkaaDoor
set_option maxRecDepth 100000
open Go.RowKit Go.Maps Go.WideMaps Go.WideElems

theorem row_slice {w : World} {B n size : Nat} {e : TypeId} {v : Value} {xs : List Value} (h : w.ownsRow B e size v n xs) : ∃ p l c, v = .slice p l c := by
  rcases h.2 with ⟨rfl, _⟩ | ⟨g, cap, cur, rfl, _⟩
  · exact ⟨_, _, _, rfl⟩
  · exact ⟨_, _, _, rfl⟩

set_option maxHeartbeats 800000 in
theorem hasMember_any (r : Nat) (b : Nat) (w : World) (hr : (r : Int) ≤ 9223372036854775807) (hb : b < 62) :
    Calls Tryd.prog 51 #[.int .i64 r, .int .i64 b] w fun e w' => e = .returned (.bool (r.testBit b)) ∧ w = w' := by
  have HS : Hid ((bits .and .i64 ((r : Int) / 2 ^ b) 1 == 1) = r.testBit b) := by
    have := shr_bit (r : Int) b (by omega) hr
    unfold bt at this
    rw [Int.toNat_natCast] at this
    exact this
  have hb0 : (0 : Int) ≤ b := by omega
  go_enter Tryd.func51, Tryd.ntmps51
  go_wp2
  go_ret
  exact ⟨ret_bool HS.out, rfl⟩

/-- Whether v and x are neighbours. -/
def dbF (zs : List Int) (v x : Nat) : Bool := bt (el zs v) x
def dgL (zs : List Int) : List Int := rowsF (2 * zs.length) (adjS (whereS (kF zs.length (dbF zs)) (2 * zs.length)))
def DGN (n : Int) (zs : List Int) : Int := if isG n zs then (if 31 < zs.length then 0 else ((2 * zs.length : Nat) : Int)) else 0
def DGL (n : Int) (zs : List Int) : List Int := if isG n zs then (if 31 < zs.length then [] else dgL zs) else []
def DGC (n : Int) (zs : List Int) : Int := if isG n zs then (if 31 < zs.length then 3 else 0) else 1
theorem DGL_length (n : Int) (zs : List Int) : (DGL n zs).length ≤ 62 := by
  unfold DGL dgL
  split
  · split
    · simp
    · rw [rowsF_length]; omega
  · simp
theorem row_bd62 {zs : List Int} (hg : isG (zs.length : Int) zs = true) {v : Nat} (hv : v < zs.length) : 0 ≤ el zs v ∧ el zs v ≤ 4611686018427387903 := by
  have hp := isG_parts hg
  have h1 := rowsOk_at hp.2.2.2.1 hv
  have h2 := rowOk_le h1
  rw [Int.toNat_natCast] at h2
  have h3 := isG_row_ok hg v hv
  have e : ((2 : Int) ^ zs.length) = ((2 ^ zs.length : Nat) : Int) := by simp
  have h4 : 2 ^ zs.length ≤ 2 ^ 62 := Nat.pow_le_pow_right (by decide) (by omega)
  rw [e] at h2
  omega
theorem eg_dbl : ∀ args W, (callFunc 50 args).run Tryd.prog W = .ok (.enter 50 args) W := fun _ _ => by kernel_rfl

set_option maxHeartbeats 800000 in
theorem dbl1_any (v x b off cap gb : Nat) (zs : List Int) (w : World) (hv : v < zs.length) (hx : x < zs.length) (hl : zs.length ≤ 62) (hg : isG (zs.length : Int) zs = true)
    (h1 : w.cell? ⟨gb, 1, none⟩ = some (.slice (some ⟨b, off, none⟩) zs.length cap)) (hc : Cells w b off zs) :
    Calls Tryd.prog 50 #[.int .i64 v, .int .i64 x, .pointer (some ⟨gb, 0, none⟩)] w fun e w' => e = .returned (.bool (dbF zs v x)) ∧ Below w.heap.size w w' := by
  have hz := hc v hv
  obtain ⟨hz0, hz1⟩ := row_bd62 hg hv
  obtain ⟨z, hzz⟩ : ∃ z : Nat, el zs v = (z : Int) := ⟨(el zs v).toNat, by omega⟩
  have HD : Hid (dbF zs v x = z.testBit x) := by show _ = _; unfold dbF bt; rw [hzz, Int.toNat_natCast]
  rw [hzz] at hz hz1
  have HM := Lib.hid (fun W => hasMember_any z x W (by omega) (by omega))
  have hv0 : (0 : Int) ≤ v := by omega
  have hvl : (v : Int) < zs.length := by omega
  rw [HD.out]
  clear hg hc hzz hz0 HD
  go_enter Tryd.func50, Tryd.ntmps50
  go_wp2_with (go_at_call 51; with_reducible refine (HM.out _).mono ?_; rintro e w1 ⟨rfl, rfl⟩)
  go_ret
  exact ⟨rfl, Below.refl _ _⟩

set_option maxHeartbeats 800000 in
theorem implDg_no (n : Int) (v : Value) (zs : List Int) (w : World) (h : Sl w v zs) (hg : isG n zs = false) (hl : zs.length ≤ 9223372036854775807) (hT : Tab w) :
    Calls Tryd.prog 28 #[.agg #[.int .i64 n, v]] w fun e w' => GRes w.heap.size 0 [] 1 e w' ∧ Below w.heap.size w w' := by
  have D0 : Below w.heap.size w ((w.alloc (.cells #[.int .i64 n, v] 28)).alloc (.cells #[.int .i64 0, .slice none 0 0] 28)) := ((Below.refl _ _).alloc (Nat.le_refl _) _).alloc (by simp) _
  have his := implIs_any n v zs _ (h.below D0) hl (hT.belowAll D0)
  rw [hg] at his
  simp only [World.size_alloc] at his
  have HH1 := Lib.hid (heap_new_at (w.alloc (.cells #[.int .i64 n, v] 28)) (.cells #[.int .i64 0, .slice none 0 0] 28) (w.heap.size + 1) (by simp))
  clear h hg hT
  go_enter Tryd.func28, Tryd.ntmps28
  go_wp2_with (go_at_call 41; refine his.mono ?_; rintro e w1 ⟨rfl, hb1⟩; have RB := Lib.hid ((hb1.block (w.heap.size + 1) (by omega)).trans HH1.out); obtain ⟨r0, r1, g0, g1⟩ := two_cells RB.out)
  have hfin := two_set (a := .int .i64 0) (b := .slice none 0 0) RB.out
  refine bodyPost_ret (v := .tuple #[.agg #[.int .i64 0, .slice none 0 0], .int .i64 1]) (results_cell2 (p := 2) (u := 3) (ty := 28) rfl _ _ (w.heap.size + 1) 28 _ (0, 0) _ rfl hfin Tryd.underlying28 rfl (by exact info27)) rfl ⟨⟨_, rfl, Own.nil _ _⟩, ?_⟩
  exact ((D0.trans (hb1.mono (by omega))).setCell (p := ⟨w.heap.size + 1, 0, none⟩) (by simp) _).setCell (p := ⟨w.heap.size + 1, 1, none⟩) (by simp) _

set_option maxHeartbeats 1600000 in
theorem implDg_yes (b off cap : Nat) (zs : List Int) (w : World) (hb : b < w.heap.size) (hc : Cells w b off zs) (hg : isG (zs.length : Int) zs = true) (hT : Tab w) :
    Calls Tryd.prog 28 #[.agg #[.int .i64 zs.length, .slice (some ⟨b, off, none⟩) zs.length cap]] w fun e w' => GRes w.heap.size (if 31 < zs.length then 0 else ((2 * zs.length : Nat) : Int)) (if 31 < zs.length then [] else dgL zs) (if 31 < zs.length then 3 else 0) e w' ∧ Below w.heap.size w w' := by
  have hp := isG_parts hg
  have hl62 : zs.length ≤ 62 := by omega
  obtain ⟨N, hN⟩ : ∃ N, N = (if 31 < zs.length then 0 else ((2 * zs.length : Nat) : Int)) := ⟨_, rfl⟩
  obtain ⟨L, hL⟩ : ∃ L, L = (if 31 < zs.length then [] else dgL zs) := ⟨_, rfl⟩
  obtain ⟨c, hcc⟩ : ∃ c : Int, c = (if 31 < zs.length then 3 else 0) := ⟨_, rfl⟩
  rw [← hN, ← hL, ← hcc]
  obtain ⟨W, hW⟩ : ∃ W, W = (w.alloc (.cells #[.int .i64 zs.length, .slice (some ⟨b, off, none⟩) zs.length cap] 28)).alloc (.cells #[.int .i64 0, .slice none 0 0] 28) := ⟨_, rfl⟩
  have D0 : Below w.heap.size w W := by rw [hW]; exact ((Below.refl _ _).alloc (Nat.le_refl _) _).alloc (by simp) _
  have RB0 : Hid (W.heap[w.heap.size + 1]? = some (.cells #[.int .i64 0, .slice none 0 0] 28 (0, 0))) := by rw [hW]; exact heap_new_at _ _ _ (by simp)
  have HG0 : Hid (W.heap[w.heap.size]? = some (.cells #[.int .i64 zs.length, .slice (some ⟨b, off, none⟩) zs.length cap] 28 (0, 0))) := by rw [hW]; exact heap_old_at (World.alloc_heap_new w _) _
  have hsz : w.heap.size + 2 ≤ W.heap.size := by rw [hW]; simp
  have his := implIs_some zs.length b off cap zs W (by omega) (hc.below D0 hb) (by omega) (hT.belowAll D0)
  rw [hg] at his
  have HIS := Lib.hid his
  have HKI : Hid (∀ w1 : World, Below W.heap.size W w1 → Calls Tryd.prog 49 #[.int .i64 zs.length, .func (.func 50) #[] #[.pointer (some ⟨w.heap.size, 0, none⟩)]] w1 fun e w' => GRes w1.heap.size N L c e w' ∧ Below w1.heap.size w1 w') := fun w1 h1 => by
    by_cases h31 : 31 < zs.length
    · rw [hN, hL, hcc, if_pos h31, if_pos h31, if_pos h31]
      exact kinds_far _ _ _ zs.length w1 h31 (by omega)
    · rw [hN, hL, hcc, if_neg h31, if_neg h31, if_neg h31]
      exact kinds_any 50 _ (dbF zs) zs.length (2 * zs.length) w1 (by omega) rfl eg_dbl fun v x W3 hv hx hb3 => by
        obtain ⟨-, r1, -, -⟩ := two_cells ((hb3.block w.heap.size (by have := h1.size; omega)).trans ((h1.block w.heap.size (by omega)).trans HG0.out))
        exact dbl1_any v x b off cap w.heap.size zs W3 hv hx hl62 hg r1 (((hc.below D0 hb).below h1 (by omega)).below hb3 (by have := h1.size; omega))
  have hmf := hmkf
  have X0 := two_cells HG0.out
  clear his hg hT hN hL hcc hc hp
  go_enter Tryd.func28, Tryd.ntmps28
  go_upto_region 1 with fail
  rw [← hW]
  clear hW
  obtain ⟨b0, b1, -, -⟩ := X0
  go_wp2_with fail
  refine HIS.out.mono ?_
  rintro e w1 ⟨rfl, hb1⟩
  have hk := HKI.out w1 hb1
  obtain ⟨b0, b1, -, -⟩ := two_cells ((hb1.block w.heap.size (by omega)).trans HG0.out)
  have RB1 := Lib.hid ((hb1.block (w.heap.size + 1) (by omega)).trans RB0.out)
  have E1 := D0.trans (hb1.mono D0.size)
  have s1 := hb1.size
  clear HIS HKI D0 RB0 HG0 hb1
  go_wp2_with fail
  refine hk.mono ?_
  rintro e w3 ⟨⟨u3, rfl, hO3⟩, hb3⟩
  obtain ⟨ua, ul, uc, rfl⟩ := row_slice hO3
  have HO3 := Lib.hid hO3
  have HE3 := Lib.hid (E1.trans (hb3.mono E1.size))
  have RB3 := Lib.hid ((hb3.block (w.heap.size + 1) (by omega)).trans RB1.out)
  clear hO3 hb3 hk b0 b1
  obtain ⟨r0, r1, g0, g1⟩ := two_cells RB3.out
  go_wp2_with fail
  have hfin := two_set (a := .int .i64 N) (b := .slice ua ul uc) RB3.out
  refine bodyPost_ret (v := .tuple #[.agg #[.int .i64 N, .slice ua ul uc], .int .i64 c]) (results_cell2 (p := 2) (u := 3) (ty := 28) rfl _ _ (w.heap.size + 1) 28 _ (0, 0) _ rfl hfin Tryd.underlying28 rfl (by exact info27)) rfl ⟨⟨_, rfl, ?_⟩, ?_⟩
  · have hne : (Value.slice ua ul uc).ownBlock ≠ some (w.heap.size + 1) := fun e => by have := HO3.out.ge _ e; omega
    exact (HO3.out.base (by omega)).kept (grown_set (grown_set ⟨rfl, rfl, rfl, Nat.le_refl _, fun _ _ _ => rfl⟩ (w.heap.size + 1) 0 _) (w.heap.size + 1) 1 _) (.inr hne)
  · exact (HE3.out.setCell (p := ⟨w.heap.size + 1, 0, none⟩) (by simp) _).setCell (p := ⟨w.heap.size + 1, 1, none⟩) (by simp) _

theorem implDg_any (n : Int) (v : Value) (zs : List Int) (w : World) (h : Sl w v zs) (hl : zs.length ≤ 9223372036854775807) (hT : Tab w) :
    Calls Tryd.prog 28 #[.agg #[.int .i64 n, v]] w fun e w' => GRes w.heap.size (DGN n zs) (DGL n zs) (DGC n zs) e w' ∧ Below w.heap.size w w' := by
  unfold DGN DGL DGC
  cases hg : isG n zs
  · exact implDg_no n v zs w h hg hl hT
  · obtain ⟨b, off, cap, rfl, hb, hc⟩ := sl_some h (by have := (isG_parts hg).2.2.1; have := (isG_parts hg).1; omega)
    have e := (isG_parts hg).2.2.1
    subst e
    exact implDg_yes b off cap zs w hb hc hg hT
end Go.Proofs.YtlodaeoikkjbkaaDoor
