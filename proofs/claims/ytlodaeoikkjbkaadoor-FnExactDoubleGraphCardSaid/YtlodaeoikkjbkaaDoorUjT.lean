/-
  impl.graphOfKinds, over any closure of two captured variables.
-/
import Derived.Test.YtlodaeoikkjbkaaDoorUfT
import Derived.OneCell
import Derived.Deep.DeepCutAuto
import Derived.Deep.RegionWith
namespace Go.Proofs.YtlodaeoikkjbkaaDoor
set_option maxRecDepth 100000
open Go.RowKit Go.Maps Go.WideMaps Go.WideElems

theorem hmkf : ∀ (fn : Fn) (first cap : Array Value) (w : World), (Instr.makeFunc fn first cap).run Tryd.prog w = .ok (.func fn first cap) w := fun _ _ _ _ => rfl
theorem inS_iff (f : Nat → Nat → Bool) (x : Nat) : ∀ k p, p ∈ inS f x k ↔ p.1 < k ∧ p.2 = x ∧ f p.1 x = true
  | 0, p => by simp [inS]
  | k + 1, p => by
    have ih := inS_iff f x k p
    cases e : f k x with
    | true =>
      rw [inS_yes e, List.mem_append, List.mem_singleton, ih]
      constructor
      · rintro (⟨h1, h2, h3⟩ | rfl)
        · exact ⟨by omega, h2, h3⟩
        · exact ⟨Nat.lt_succ_self _, rfl, e⟩
      · rintro ⟨h1, h2, h3⟩
        by_cases h : p.1 = k
        · exact .inr (Prod.ext h h2)
        · exact .inl ⟨by omega, h2, h3⟩
    | false =>
      rw [inS_no e, ih]
      constructor
      · rintro ⟨h1, h2, h3⟩
        exact ⟨by omega, h2, h3⟩
      · rintro ⟨h1, h2, h3⟩
        refine ⟨?_, h2, h3⟩
        by_cases h : p.1 = k
        · rw [h, e] at h3; cases h3
        · omega
theorem whereS_iff (f : Nat → Nat → Bool) : ∀ n p, p ∈ whereS f n ↔ p.1 < p.2 ∧ p.2 < n ∧ f p.1 p.2 = true
  | 0, p => by simp [whereS]
  | n + 1, p => by
    rw [whereS, List.mem_append, whereS_iff f n p, inS_iff f n n p]
    constructor
    · rintro (⟨h1, h2, h3⟩ | ⟨h1, h2, h3⟩)
      · exact ⟨h1, by omega, h3⟩
      · rw [h2]; exact ⟨h1, by omega, h3⟩
    · rintro ⟨h1, h2, h3⟩
      by_cases h : p.2 = n
      · rw [h] at h1 h3; exact .inr ⟨h1, h, h3⟩
      · exact .inl ⟨h1, by omega, h3⟩

/-- Vertices of two kinds. -/
def kF (n : Nat) (f : Nat → Nat → Bool) : Nat → Nat → Bool := fun v x => decide (v < n) && (decide (n ≤ x) && f v (x - n))

set_option maxHeartbeats 1600000 in
theorem kinds1_any (fid : FuncId) (p1 : Value) (f : Nat → Nat → Bool) (n v x bn bj : Nat) (w : World) (hv : v ≤ 1000) (hx : x ≤ 1000) (eg : ∀ args W, (callFunc fid args).run Tryd.prog W = .ok (.enter fid args) W)
    (h1 : w.cell? ⟨bn, 0, none⟩ = some (.int .i64 n)) (h2 : w.cell? ⟨bj, 0, none⟩ = some (.func (.func fid) #[] #[p1]))
    (hJ : v < n → n ≤ x → Calls Tryd.prog fid #[.int .i64 v, .int .i64 ((x : Int) - n), p1] w fun e w' => e = .returned (.bool (f v (x - n))) ∧ Below w.heap.size w w') :
    Calls Tryd.prog 72 #[.int .i64 v, .int .i64 x, .pointer (some ⟨bn, 0, none⟩), .pointer (some ⟨bj, 0, none⟩)] w fun e w' => e = .returned (.bool (kF n f v x)) ∧ Below w.heap.size w w' := by
  by_cases hvn : v < n
  · by_cases hxn : n ≤ x
    · have HC := Lib.hid (hJ hvn hxn)
      rw [show kF n f v x = f v (x - n) by simp [kF, hvn, hxn]]
      have hvi : (v : Int) < n := by omega
      have hxi : (n : Int) ≤ x := by omega
      clear hJ
      go_enter Tryd.func72, Tryd.ntmps72
      go_wp2_with fail
      refine HC.out.mono ?_
      rintro e w1 ⟨rfl, hb1⟩
      go_wp2_with fail
      go_ret
      exact ⟨rfl, hb1⟩
    · rw [show kF n f v x = false by simp [kF, hxn]]
      have hvi : (v : Int) < n := by omega
      have hxi : (x : Int) < n := by omega
      clear hJ
      go_enter Tryd.func72, Tryd.ntmps72
      go_wp2_with fail
      go_ret
      exact ⟨rfl, Below.refl _ _⟩
  · rw [show kF n f v x = false by simp [kF, hvn]]
    have hvi : (n : Int) ≤ v := by omega
    clear hJ
    go_enter Tryd.func72, Tryd.ntmps72
    go_wp2_with fail
    go_ret
    exact ⟨rfl, Below.refl _ _⟩

theorem eg_kinds : ∀ args W, (callFunc 72 args).run Tryd.prog W = .ok (.enter 72 args) W := fun _ _ => by kernel_rfl

set_option maxHeartbeats 1600000 in
theorem kinds_far (fv : Fn) (fs cs : Array Value) (n : Nat) (w : World) (hn : 31 < n) (hn2 : n ≤ 1000) :
    Calls Tryd.prog 49 #[.int .i64 n, .func fv fs cs] w fun e w' => GRes w.heap.size 0 [] 3 e w' ∧ Below w.heap.size w w' := by
  obtain ⟨W, hW⟩ : ∃ W, W = ((w.alloc (.cells #[.int .i64 n] 2)).alloc (.cells #[.func fv fs cs] 64)).alloc (.cells #[.int .i64 0, .slice none 0 0] 28) := ⟨_, rfl⟩
  have D0 : Below w.heap.size w W := by rw [hW]; exact (((Below.refl _ _).alloc (Nat.le_refl _) _).alloc (by simp) _).alloc (by simp; omega) _
  have RB : Hid (W.heap[w.heap.size + 2]? = some (.cells #[.int .i64 0, .slice none 0 0] 28 (0, 0))) := by rw [hW]; exact heap_new_at _ _ _ (by simp)
  have HN : W.heap[w.heap.size]? = some (.cells #[.int .i64 n] 2 (0, 0)) := by rw [hW]; exact heap_old_at (heap_old_at (World.alloc_heap_new w _) _) _
  have hsz : w.heap.size + 3 ≤ W.heap.size := by rw [hW]; simp
  have h62 : (62 : Int) < 2 * (n : Int) := by omega
  go_enter Tryd.func49, Tryd.ntmps49
  go_upto_region 1 with fail
  rw [← hW]
  clear hW
  have cn := cell_of_one HN
  obtain ⟨r0, r1, g0, g1⟩ := two_cells RB.out
  go_wp2_with fail
  have hfin := two_set (a := .int .i64 0) (b := .slice none 0 0) RB.out
  refine bodyPost_ret (v := .tuple #[.agg #[.int .i64 0, .slice none 0 0], .int .i64 3]) (results_cell2 (p := 4) (u := 5) (ty := 28) rfl _ _ (w.heap.size + 2) 28 _ (0, 0) _ rfl hfin Tryd.underlying28 rfl (by exact info27)) rfl ⟨⟨_, rfl, Own.nil _ _⟩, ?_⟩
  exact (D0.setCell (p := ⟨w.heap.size + 2, 0, none⟩) (by simp) _).setCell (p := ⟨w.heap.size + 2, 1, none⟩) (by simp) _

set_option maxHeartbeats 1600000 in
set_option maxRecDepth 100000 in
theorem kinds_any (fid : FuncId) (p1 : Value) (f : Nat → Nat → Bool) (n m : Nat) (w : World) (hn : n ≤ 31) (hm : m = 2 * n) (eg : ∀ args W, (callFunc fid args).run Tryd.prog W = .ok (.enter fid args) W)
    (hJ : ∀ (v x : Nat) (W : World), v < n → x < n → Below w.heap.size w W → Calls Tryd.prog fid #[.int .i64 v, .int .i64 x, p1] W fun e w' => e = .returned (.bool (f v x)) ∧ Below W.heap.size W w') :
    Calls Tryd.prog 49 #[.int .i64 n, .func (.func fid) #[] #[p1]] w fun e w' => GRes w.heap.size m (rowsF m (adjS (whereS (kF n f) m))) 0 e w' ∧ Below w.heap.size w w' := by
  obtain ⟨W, hW⟩ : ∃ W, W = ((w.alloc (.cells #[.int .i64 n] 2)).alloc (.cells #[.func (.func fid) #[] #[p1]] 64)).alloc (.cells #[.int .i64 0, .slice none 0 0] 28) := ⟨_, rfl⟩
  have D0 : Below w.heap.size w W := by rw [hW]; exact (((Below.refl _ _).alloc (Nat.le_refl _) _).alloc (by simp) _).alloc (by simp; omega) _
  have RB : Hid (W.heap[w.heap.size + 2]? = some (.cells #[.int .i64 0, .slice none 0 0] 28 (0, 0))) := by rw [hW]; exact heap_new_at _ _ _ (by simp)
  have HN : W.heap[w.heap.size]? = some (.cells #[.int .i64 n] 2 (0, 0)) := by rw [hW]; exact heap_old_at (heap_old_at (World.alloc_heap_new w _) _) _
  have HF : W.heap[w.heap.size + 1]? = some (.cells #[.func (.func fid) #[] #[p1]] 64 (0, 0)) := by rw [hW]; exact heap_old_at (heap_new_at _ _ _ (by simp)) _
  have hsz : w.heap.size + 3 ≤ W.heap.size := by rw [hW]; simp
  have hwh := where_any 72 (.pointer (some ⟨w.heap.size, 0, none⟩)) (.pointer (some ⟨w.heap.size + 1, 0, none⟩)) (kF n f) m W (by omega) eg_kinds (fun v x W3 hvx hx hb =>
    kinds1_any fid p1 f n v x w.heap.size (w.heap.size + 1) W3 (by omega) (by omega) eg (cell_of_one ((hb.block w.heap.size (by omega)).trans HN)) (cell_of_one ((hb.block (w.heap.size + 1) (by omega)).trans HF)) (fun hv hxn => by
      have h := hJ v (x - n) W3 hv (by omega) (D0.trans (hb.mono (by omega)))
      rw [show ((x - n : Nat) : Int) = (x : Int) - n by omega] at h
      exact h))
  rw [show (m : Int) = 2 * (n : Int) by omega] at hwh
  have HWH := Lib.hid hwh
  have HM : Hid ((2 * (n : Int)) = (m : Int)) := by show _ = _; omega
  have h62 : ¬ (62 : Int) < 2 * (n : Int) := by omega
  have hm62 : m ≤ 62 := by omega
  have hmf := hmkf
  clear hwh hJ hm
  go_enter Tryd.func49, Tryd.ntmps49
  go_upto_region 1 with fail
  rw [← hW]
  clear hW
  have cn := cell_of_one HN
  have cf := cell_of_one HF
  go_wp2_with (go_at_call 57; refine HWH.out.mono ?_; rintro e w3 ⟨⟨g3, rfl, hB3, hg3⟩, hb3⟩; have HB3 := Lib.hid hB3; have HE3 := Lib.hid (D0.trans (hb3.mono D0.size)); have RB3 := Lib.hid ((hb3.block (w.heap.size + 2) (by omega)).trans RB.out); clear hB3 hb3; obtain ⟨r0, r1, g0, g1⟩ := two_cells RB3.out)
  have hfin := two_set (a := .int .i64 m) (b := .slice (some ⟨g3, 0, none⟩) m m) RB3.out
  refine bodyPost_ret (v := .tuple #[.agg #[.int .i64 m, .slice (some ⟨g3, 0, none⟩) m m], .int .i64 0]) (results_cell2 (p := 4) (u := 5) (ty := 28) rfl _ _ (w.heap.size + 2) 28 _ (0, 0) _ rfl hfin Tryd.underlying28 rfl (by exact info27)) rfl ⟨⟨_, rfl, ?_⟩, ?_⟩
  · have h := Own.of_blk ((HB3.out.other (a := ⟨w.heap.size + 2, 0, none⟩) (by simp; omega) (.int .i64 m)).other (a := ⟨w.heap.size + 2, 1, none⟩) (by simp; omega) (.slice (some ⟨g3, 0, none⟩) m m)) (B := w.heap.size) (by omega) (by rw [rowsF_length]; unfold maxLen; omega)
    rw [rowsF_length] at h
    exact h
  · exact (HE3.out.setCell (p := ⟨w.heap.size + 2, 0, none⟩) (by simp) _).setCell (p := ⟨w.heap.size + 2, 1, none⟩) (by simp) _
end Go.Proofs.YtlodaeoikkjbkaaDoor
