/-
  impl.IsCover.
-/
import Derived.Test.YtlodaeoikkjbkaaDoorIv
import Derived.Test.YtlodaeoikkjbkaaDoorCk2
import Derived.RangeFuncBox
import Derived.Sort.QuietIn
namespace Go.Proofs.YtlodaeoikkjbkaaDoor
set_option maxRecDepth 100000
open Go.RowKit Go.Shelf

attribute [local go_sem] Oper.semAt_some

theorem one_new (w : World) (x : Value) (t : TypeId) : (w.alloc (.cells #[x] t)).cell? ⟨w.heap.size, 0, none⟩ = some x := by
  have := World.cell?_alloc_new (w := w) #[x] t 0
  rw [this]; rfl

set_option maxHeartbeats 800000 in
theorem chk_nil (n : Int) (b off cap : Nat) (zs : List Int) (a : Option Addr) (c : Nat) (w : World) (hb : b < w.heap.size) (hc : Cells w b off zs) (hg : isG n zs = true) (hl : zs.length ≤ 9223372036854775807) (hT : Tab w) :
    Calls Tryd.prog 36 #[.agg #[.int .i64 n, .slice (some ⟨b, off, none⟩) zs.length cap], .slice a 0 c] w fun e w' => e = .returned (.int .i64 0) ∧ Below w.heap.size w w' := by
  have D0 : Below w.heap.size w (w.alloc (.cells #[.int .i64 n, .slice (some ⟨b, off, none⟩) zs.length cap] 28)) := (Below.refl _ _).alloc (Nat.le_refl _) _
  have his := implIs_some n b off cap zs _ (Nat.lt_of_lt_of_le hb D0.size) (hc.below D0 hb) hl (hT.belowAll D0)
  rw [hg] at his
  have HG0 := Lib.hid (GBox.new (n := n) (cap := cap) hb hc)
  clear hc hg hT
  go_enter Tryd.func36, Tryd.ntmps36
  go_wp2_with (go_at_call 41; refine his.mono ?_; rintro e w1 ⟨rfl, hb1⟩; have G1 := HG0.out.below (hb1.mono (by simp)); have b0 := G1.b0; have b1 := G1.b1)
  have HE := Lib.hid (D0.trans (hb1.mono (by simp)))
  clear hb1 his
  go_loop [6, 12] (fun _ i => i = .int .i64 0) (fun _ _ => 0)
  case atStart => exact rfl
  case round =>
    obtain rfl := hrel
    go_wp2
    go_ret
    exact ⟨rfl, HE.out⟩

set_option maxHeartbeats 800000 in
theorem implIv_g (n0 n1 : Int) (u0 u1 : Value) (a2 : Option Addr) (l2 c2 : Nat) (zs : List Int) (w : World) (h0 : Sl w u0 zs) (hl0 : zs.length ≤ 9223372036854775807) (hg : isG n0 zs = false) (hT : Tab w) :
    Calls Tryd.prog 21 #[.agg #[.int .i64 n0, u0], .agg #[.int .i64 n1, u1], .slice a2 l2 c2] w fun e w' => e = .returned (.tuple #[.bool false, .int .i64 1]) ∧ Below w.heap.size w w' := by
  have D0 : Below w.heap.size w (((w.alloc (.cells #[.int .i64 n0, u0] 28)).alloc (.cells #[.int .i64 n1, u1] 28)).alloc (.cells #[.slice a2 l2 c2] 22)) := ((((Below.refl _ _).alloc (Nat.le_refl _) _).alloc (by simp) _).alloc (by simp; omega) _)
  have his := implIs_any n0 u0 zs _ (h0.below D0) hl0 (hT.belowAll D0)
  rw [hg] at his
  clear hg h0 hT
  go_enter Tryd.func21, Tryd.ntmps21
  go_wp2_with (first | (go_at_call 41; with_reducible refine his.mono ?_; rintro e w1 ⟨rfl, hb1⟩; have D1 := D0.trans (hb1.mono D0.size)))
  go_ret2
  exact ⟨rfl, D1⟩

/-- Behind the first check: the code of the second one is c. -/
theorem implIv_c (b0 o0 c0 : Nat) (n1 : Int) (u1 : Value) (a2 : Option Addr) (l2 c2 : Nat) (zs : List Int) (c : Int) (w : World) (hb0 : b0 < w.heap.size) (hc0 : Cells w b0 o0 zs) (hg : isG zs.length zs = true) (hl : zs.length ≤ 9223372036854775807) (hT : Tab w) (hc : c ≠ 0)
    (hcall : ∀ W, Below w.heap.size w W → Calls Tryd.prog 36 #[.agg #[.int .i64 n1, u1], .slice a2 l2 c2] W fun e w' => e = .returned (.int .i64 c) ∧ Below W.heap.size W w') :
    Calls Tryd.prog 21 #[.agg #[.int .i64 zs.length, .slice (some ⟨b0, o0, none⟩) zs.length c0], .agg #[.int .i64 n1, u1], .slice a2 l2 c2] w fun e w' => e = .returned (.tuple #[.bool false, .int .i64 c]) ∧ Below w.heap.size w w' := by
  have D0 : Below w.heap.size w (((w.alloc (.cells #[.int .i64 zs.length, .slice (some ⟨b0, o0, none⟩) zs.length c0] 28)).alloc (.cells #[.int .i64 n1, u1] 28)).alloc (.cells #[.slice a2 l2 c2] 22)) := ((((Below.refl _ _).alloc (Nat.le_refl _) _).alloc (by simp) _).alloc (by simp; omega) _)
  have his := implIs_some zs.length b0 o0 c0 zs _ (Nat.lt_of_lt_of_le hb0 D0.size) (hc0.below D0 hb0) hl (hT.belowAll D0)
  rw [hg] at his
  have X1 := Lib.hid (heap_old_at (heap_new_at (w.alloc (.cells #[.int .i64 zs.length, .slice (some ⟨b0, o0, none⟩) zs.length c0] 28)) (.cells #[.int .i64 n1, u1] 28) (w.heap.size + 1) (by simp)) (.cells #[.slice a2 l2 c2] 22))
  have X2 := Lib.hid (one_new ((w.alloc (.cells #[.int .i64 zs.length, .slice (some ⟨b0, o0, none⟩) zs.length c0] 28)).alloc (.cells #[.int .i64 n1, u1] 28)) (.slice a2 l2 c2) 22)
  have HCL := Lib.hid hcall
  have hc1 : (c != 0) = true := by rw [bne_iff_ne]; exact hc
  clear hg hc0 hT hcall
  go_enter Tryd.func21, Tryd.ntmps21
  go_wp2_with (first | (go_at_call 41; with_reducible refine his.mono ?_; rintro e w1 ⟨rfl, hb1⟩; obtain ⟨x0, x1, -, -⟩ := two_cells ((hb1.block (w.heap.size + 1) (by first | (simp; done) | (simp; omega))).trans X1.out); have y0 := (hb1.cell (p := ⟨w.heap.size + 1 + 1, 0, none⟩) (by first | (simp; done) | (simp; omega))).trans (by have := X2.out; simpa using this); have D1 := D0.trans (hb1.mono D0.size); have hca := HCL.out w1 D1; clear his) | (go_at_call 36; with_reducible refine hca.mono ?_; rintro e w2 ⟨rfl, hb2⟩; have D2 := D1.trans (hb2.mono D1.size)))
  go_ret2
  exact ⟨rfl, D2⟩

theorem implIv_len (b0 o0 c0 : Nat) (n1 : Int) (u1 : Value) (a2 : Option Addr) (l2 c2 : Nat) (zs : List Int) (w : World) (hb0 : b0 < w.heap.size) (hc0 : Cells w b0 o0 zs) (hg : isG zs.length zs = true) (hl : zs.length ≤ 9223372036854775807) (hT : Tab w) (_ : l2 ≤ 1048576) (hne : l2 ≠ zs.length)
    (hcall : ∀ W, Below w.heap.size w W → Calls Tryd.prog 36 #[.agg #[.int .i64 n1, u1], .slice a2 l2 c2] W fun e w' => e = .returned (.int .i64 0) ∧ Below W.heap.size W w') :
    Calls Tryd.prog 21 #[.agg #[.int .i64 zs.length, .slice (some ⟨b0, o0, none⟩) zs.length c0], .agg #[.int .i64 n1, u1], .slice a2 l2 c2] w fun e w' => e = .returned (.tuple #[.bool false, .int .i64 2]) ∧ Below w.heap.size w w' := by
  have D0 : Below w.heap.size w (((w.alloc (.cells #[.int .i64 zs.length, .slice (some ⟨b0, o0, none⟩) zs.length c0] 28)).alloc (.cells #[.int .i64 n1, u1] 28)).alloc (.cells #[.slice a2 l2 c2] 22)) := ((((Below.refl _ _).alloc (Nat.le_refl _) _).alloc (by simp) _).alloc (by simp; omega) _)
  have his := implIs_some zs.length b0 o0 c0 zs _ (Nat.lt_of_lt_of_le hb0 D0.size) (hc0.below D0 hb0) hl (hT.belowAll D0)
  rw [hg] at his
  have X0 := Lib.hid (heap_old_at (heap_old_at (heap_new_at w (.cells #[.int .i64 zs.length, .slice (some ⟨b0, o0, none⟩) zs.length c0] 28) w.heap.size rfl) (.cells #[.int .i64 n1, u1] 28)) (.cells #[.slice a2 l2 c2] 22))
  have X1 := Lib.hid (heap_old_at (heap_new_at (w.alloc (.cells #[.int .i64 zs.length, .slice (some ⟨b0, o0, none⟩) zs.length c0] 28)) (.cells #[.int .i64 n1, u1] 28) (w.heap.size + 1) (by simp)) (.cells #[.slice a2 l2 c2] 22))
  have X2 := Lib.hid (one_new ((w.alloc (.cells #[.int .i64 zs.length, .slice (some ⟨b0, o0, none⟩) zs.length c0] 28)).alloc (.cells #[.int .i64 n1, u1] 28)) (.slice a2 l2 c2) 22)
  have HCL := Lib.hid hcall
  have hnn : ((l2 : Int) != (zs.length : Int)) = true := by rw [bne_iff_ne]; omega
  clear hg hc0 hT hcall
  go_enter Tryd.func21, Tryd.ntmps21
  go_wp2_with (first | (go_at_call 41; with_reducible refine his.mono ?_; rintro e w1 ⟨rfl, hb1⟩; obtain ⟨x0, x1, -, -⟩ := two_cells ((hb1.block (w.heap.size + 1) (by first | (simp; done) | (simp; omega))).trans X1.out); have y0 := (hb1.cell (p := ⟨w.heap.size + 1 + 1, 0, none⟩) (by first | (simp; done) | (simp; omega))).trans (by have := X2.out; simpa using this); have D1 := D0.trans (hb1.mono D0.size); have hca := HCL.out w1 D1; clear his) | (go_at_call 36; with_reducible refine hca.mono ?_; rintro e w2 ⟨rfl, hb2⟩; have D2 := D1.trans (hb2.mono D1.size); have E2 := hb1.trans (hb2.mono hb1.size); obtain ⟨a0, a1, -, -⟩ := two_cells ((E2.block w.heap.size (by first | (simp; done) | (simp; omega))).trans X0.out); have y0 := (E2.cell (p := ⟨w.heap.size + 1 + 1, 0, none⟩) (by first | (simp; done) | (simp; omega))).trans (by have := X2.out; simpa using this)))
  go_ret2
  exact ⟨rfl, D2⟩

end Go.Proofs.YtlodaeoikkjbkaaDoor
