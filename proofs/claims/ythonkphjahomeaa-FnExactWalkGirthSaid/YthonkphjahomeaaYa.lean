/-
  Walks of the lift, counted: plain facts; spec.l03Step. (A plain seat of bases.)
-/
import Derived.Test.YthonkphjahomeaaFc
namespace Go.Proofs.Ythonkphjahomeaa
set_option maxRecDepth 100000
open Go.RowKit

/-- The first N values of a function, as a list. -/
def fL (g : Nat → Int) (N : Nat) : List Int := (List.range N).map g
theorem fL_length (g : Nat → Int) (N : Nat) : (fL g N).length = N := by simp [fL]
theorem fL_el (g : Nat → Int) {N j : Nat} (h : j < N) : el (fL g N) j = g j := by unfold el fL; simp [h]
theorem fL_zero (N : Nat) : fL (fun _ => 0) N = List.replicate N 0 := by
  unfold fL
  rw [List.eq_replicate_iff]
  exact ⟨by simp, fun x hx => by rw [List.mem_map] at hx; obtain ⟨_, _, rfl⟩ := hx; rfl⟩
def upF (g : Nat → Int) (j : Nat) (z : Int) : Nat → Int := fun y => if y = j then z else g y
theorem fL_set (g : Nat → Int) (N j : Nat) (z : Int) : (fL g N).set j z = fL (upF g j z) N := by
  apply List.ext_getElem
  · simp [fL]
  · intro i h1 h2
    rw [List.getElem_set]
    simp only [fL, upF, List.getElem_map, List.getElem_range]
    by_cases e : j = i
    · subst e; simp
    · rw [if_neg e, if_neg (fun h => e h.symm)]

/-- The numbers of walks one step longer, over the arcs from one vertex of the base, i of m told. -/
def nxI (m f t c : Nat) (cur nxt : Nat → Int) : Nat → Nat → Int
  | 0 => nxt
  | i + 1 => upF (nxI m f t c cur nxt i) (t * m + (i + c) % m) (IntKind.i64.wrap (nxI m f t c cur nxt i (t * m + (i + c) % m) + cur (f * m + i)))
def nxS (m : Nat) (fs : List Int) (cur : Nat → Int) : Nat → Nat → Int
  | 0 => fun _ => 0
  | s + 1 => nxI m (stA m fs s 0) (stA m fs s 1) (stA m fs s 2) cur (nxS m fs cur s) m
def wkT (m : Nat) (fs : List Int) (k st : Nat) : Nat → Nat → Int
  | 0 => upF (fun _ => 0) st 1
  | t + 1 => nxS m fs (wkT m fs k st t) (2 * k)
def wkV (m : Nat) (fs : List Int) (k K s : Nat) : Nat → Int
  | 0 => 0
  | v + 1 => IntKind.i64.wrap (wkV m fs k K s v + wkT m fs k (v * m) K (v * m + s))

theorem stA_lt {n m k : Nat} {fs : List Int} (h : AvOk n m k fs) {s : Nat} (hs : s < 2 * k) : stA m fs s 0 < n ∧ stA m fs s 1 < n ∧ stA m fs s 2 < m := by
  have h0 := (h.zero (show s / 2 < k by omega)).2
  have h1 := (h.one (show s / 2 < k by omega)).2
  have h2 := (h.two (show s / 2 < k by omega)).2
  rcases (by omega : (s = 2 * (s / 2)) ∨ (s = 2 * (s / 2) + 1)) with e | e <;> rw [e]
  · simp only [stA_even]; exact ⟨h0, h1, h2⟩
  · simp only [stA_odd0, stA_odd1, stA_odd2]; exact ⟨h1, h0, Nat.mod_lt _ (by omega)⟩

set_option maxRecDepth 100000 in
set_option maxHeartbeats 1600000 in
theorem l03Step_any (n m k cap s : Nat) (sa : Option Addr) (fs : List Int) (w : World) (hs : Sa w (.slice sa k cap) k fs) (hav : AvOk n m k fs) (h1 : n ≤ 10 ∧ m ≤ 62 ∧ k ≤ 16) (hlt : s < 2 * k) :
    Calls Try.prog 18 #[.agg #[.int .i64 n, .int .i64 m, .slice sa k cap], .int .i64 s] w fun e w' => e = .returned (.tuple #[.int .i64 (stA m fs s 0), .int .i64 (stA m fs s 1), .int .i64 (stA m fs s 2)]) ∧ Below w.heap.size w w' := by
  obtain ⟨n2, m2, k16⟩ := h1
  obtain ⟨j, hj⟩ : ∃ j, j = s / 2 := ⟨_, rfl⟩
  have hjk : j < k := by omega
  obtain ⟨e0, f0⟩ := hav.zero hjk
  obtain ⟨e1, t0⟩ := hav.one hjk
  obtain ⟨e2, c0⟩ := hav.two hjk
  obtain ⟨b, off, rfl, hb, hcc⟩ : ∃ b off, sa = some ⟨b, off, none⟩ ∧ b < w.heap.size ∧ Cells w b off fs := by
    rcases hs.2 with ⟨_, _, _, e⟩ | ⟨b, off, _, e, h1, h2⟩
    · omega
    · injection e with e1 _ _
      exact ⟨b, off, e1, h1, h2⟩
  have D0 : Below w.heap.size w (w.alloc (.cells #[.int .i64 n, .int .i64 m, .slice (some ⟨b, off, none⟩) k cap] 30)) := (Below.refl _ _).alloc (Nat.le_refl _) _
  have HG0 := Lib.hid (World.alloc_heap_new w (.cells #[.int .i64 n, .int .i64 m, .slice (some ⟨b, off, none⟩) k cap] 30))
  have HCW := hcc.below D0 hb
  have hk3 := hs.1
  have z0 := HCW (j * 3) (by rw [hk3]; omega)
  have z1 := HCW (j * 3 + 1) (by rw [hk3]; omega)
  have z2 := HCW (j * 3 + 2) (by rw [hk3]; omega)
  rw [e0] at z0
  rw [e1] at z1
  rw [e2] at z2
  rw [← Nat.add_assoc] at z1 z2
  obtain ⟨f, hf⟩ : ∃ f, f = av fs j 0 := ⟨_, rfl⟩
  obtain ⟨t, ht⟩ : ∃ t, t = av fs j 1 := ⟨_, rfl⟩
  obtain ⟨c, hc⟩ : ∃ c, c = av fs j 2 := ⟨_, rfl⟩
  rw [← hf] at z0 f0
  rw [← ht] at z1 t0
  rw [← hc] at z2 c0
  obtain ⟨o, ho⟩ : ∃ o, o = opp m c := ⟨_, rfl⟩
  have tm : Int.tmod ((m : Int) - (c : Int)) (m : Int) = (o : Int) := by rw [ho]; exact tmod_opp c0
  have ob : o < m := by rw [ho]; exact Nat.mod_lt _ (by omega)
  have g2 : IntKind.i64.wrap ((m : Int) - (c : Int)) = (m : Int) - (c : Int) := IntWalk.i64_in _ (by omega)
  have g3 : IntKind.i64.wrap (o : Int) = (o : Int) := IntWalk.i64_in _ (by omega)
  have q1 : Int.tdiv (s : Int) 2 = (j : Int) := by rw [hj]; rfl
  have q2 : IntKind.i64.wrap (j : Int) = (j : Int) := IntWalk.i64_in _ (by omega)
  have hlti : (j : Int) < k := by omega
  have hj0 : (0 : Int) ≤ j := by omega
  have hm0 : ¬ m = 0 := by omega
  obtain ⟨W0, hW0⟩ : ∃ W0, W0 = w.alloc (.cells #[.int .i64 n, .int .i64 m, .slice (some ⟨b, off, none⟩) k cap] 30) := ⟨_, rfl⟩
  have sz0 : w.heap.size + 1 ≤ W0.heap.size := by rw [hW0]; simp
  rw [← hW0] at HG0 D0 z0 z1 z2
  obtain ⟨⟨b0, b1, b2⟩, -⟩ := three_cells HG0.out
  have HE : Hid (s % 2 = 0 → stA m fs s 0 = f ∧ stA m fs s 1 = t ∧ stA m fs s 2 = c) := fun h => by
    rw [show s = 2 * j by omega]; simp only [stA_even]; exact ⟨hf.symm, ht.symm, hc.symm⟩
  have HO : Hid (¬ s % 2 = 0 → stA m fs s 0 = t ∧ stA m fs s 1 = f ∧ stA m fs s 2 = o) := fun h => by
    rw [show s = 2 * j + 1 by omega]; simp only [stA_odd0, stA_odd1, stA_odd2]; exact ⟨ht.symm, hf.symm, by rw [ho, hc]⟩
  obtain ⟨x0, hx0⟩ : ∃ x, x = stA m fs s 0 := ⟨_, rfl⟩
  obtain ⟨x1, hx1⟩ : ∃ x, x = stA m fs s 1 := ⟨_, rfl⟩
  obtain ⟨x2, hx2⟩ : ∃ x, x = stA m fs s 2 := ⟨_, rfl⟩
  rw [← hx0, ← hx1, ← hx2] at HE HO ⊢
  obtain ⟨w1, h1⟩ : ∃ w1, w1 = W0.alloc (.cells #[.int .i64 f, .int .i64 t, .int .i64 c] 41) := ⟨_, rfl⟩
  have X1 : Hid (w1.heap[W0.heap.size]? = some (.cells #[.int .i64 f, .int .i64 t, .int .i64 c] 41 (0, 0))) := by rw [h1]; exact World.alloc_heap_new W0 _
  have XB1 : Hid (w1.heap[w.heap.size]? = some (.cells #[.int .i64 n, .int .i64 m, .slice (some ⟨b, off, none⟩) k cap] 30 (0, 0))) := by show _ = _; rw [h1]; exact heap_old_at HG0.out _
  have E1 : Below w.heap.size w w1 := by rw [h1]; exact D0.alloc (by omega) _
  have H1 := Lib.hid h1
  have HW0 := Lib.hid hW0
  by_cases hpar : s % 2 = 0
  · obtain ⟨rfl, rfl, rfl⟩ := HE.out hpar
    have r1 : Int.tmod (s : Int) 2 = 0 := by have : Int.tmod (s : Int) 2 = ((s % 2 : Nat) : Int) := rfl; omega
    have r2 : IntKind.i64.wrap (0 : Int) = 0 := by decide
    clear HE HO e0 e1 e2 hf ht hc ho HCW hcc hs hav hx0 hx1 hx2 hk3 hj hpar h1 hW0
    go_enter Try.func18, Try.ntmps18
    go_upto_region 1 with fail
    rw [← HW0.out]
    go_upto_region 2 with fail
    rw [← H1.out]
    clear b0 b1 b2 z0 z1 z2
    obtain ⟨⟨b0, b1, b2⟩, -⟩ := three_cells XB1.out
    obtain ⟨⟨a0, a1, a2⟩, -⟩ := three_cells X1.out
    go_wp2_with fail
    go_quiet (fail)
    go_wp2_with fail
    go_ret3
    exact ⟨rfl, drewN_below E1 _⟩
  · obtain ⟨rfl, rfl, rfl⟩ := HO.out hpar
    have r1 : Int.tmod (s : Int) 2 = 1 := by have : Int.tmod (s : Int) 2 = ((s % 2 : Nat) : Int) := rfl; omega
    have r2 : IntKind.i64.wrap (1 : Int) = 1 := by decide
    clear HE HO e0 e1 e2 hf ht hc ho HCW hcc hs hav hx0 hx1 hx2 hk3 hj hpar h1 hW0
    go_enter Try.func18, Try.ntmps18
    go_upto_region 1 with fail
    rw [← HW0.out]
    go_upto_region 2 with fail
    rw [← H1.out]
    clear b0 b1 b2 z0 z1 z2
    obtain ⟨⟨b0, b1, b2⟩, -⟩ := three_cells XB1.out
    obtain ⟨⟨a0, a1, a2⟩, -⟩ := three_cells X1.out
    go_wp2_with fail
    go_quiet (fail)
    go_wp2_with fail
    go_ret3
    exact ⟨rfl, drewN_below E1 _⟩
end Go.Proofs.Ythonkphjahomeaa
