/-
  spec.l01Beside: two graphs beside each other.
-/
import Derived.Test.YtbpcdgfcdahnlaaDoorPb2
import Derived.Deep.AppendLies
import Derived.Deep.DeepCutAuto
import Derived.Deep.RegionLaw
namespace Go.Proofs.YtbpcdgfcdahnlaaDoor
set_option maxRecDepth 100000
open Go.RowKit

/-- The rows of the first graph and the first v of the second one. -/
def besK (zs hs : List Int) (v : Nat) : List Int := zs ++ (hs.take v).map fun r => r * 2 ^ zs.length
theorem besK_zero (zs hs : List Int) : besK zs hs 0 = zs := by simp [besK]
theorem besK_all (zs hs : List Int) : besK zs hs hs.length = besL zs hs := by simp [besK, besL]
theorem besK_length (zs hs : List Int) (v : Nat) (h : v ≤ hs.length) : (besK zs hs v).length = zs.length + v := by simp [besK]; omega
theorem besK_succ (zs hs : List Int) (v : Nat) (h : v < hs.length) : besK zs hs (v + 1) = besK zs hs v ++ [el hs v * 2 ^ zs.length] := by
  unfold besK
  rw [List.take_succ_eq_append_getElem h, List.map_append, ← List.append_assoc, el_lt h]
  rfl

theorem zext_small (n : Int) (h0 : 0 ≤ n) (h1 : n ≤ 62) : IntKind.u64.wrap n = n := IntWalk.u64_in n ⟨h0, by omega⟩

/-- What holds while the second graph's rows are put behind: block k holds the graph, its rows lie elsewhere. -/
def BesI (W : World) (k : Nat) (N : Int) (zs hs : List Int) (v : Nat) (wr : World) : Prop := ∃ u, wr.heap[k]? = some (.cells #[.int .i64 N, u] 28 (0, 0)) ∧ Own wr W.heap.size u (besK zs hs v) ∧ u.ownBlock ≠ some k ∧ Below W.heap.size W wr
theorem besI_step {W wr w3 : World} {k v gg cp : Nat} {N : Int} {zs hs : List Int} {u : Value} (hv : v < hs.length) (hX : wr.heap[k]? = some (.cells #[.int .i64 N, u] 28 (0, 0)))
    (hO : wr.ownsRow W.heap.size 2 1 u (besK zs hs v).length ((besK zs hs v).map (Value.int .i64))) (hne : u.ownBlock ≠ some k) (hB : Below W.heap.size W wr) (hk : W.heap.size ≤ k) {o : Obj}
    (hown3 : w3.ownsRow W.heap.size 2 1 (.slice (some ⟨gg, 0, none⟩) ((besK zs hs v).length + 1) cp) ((besK zs hs v).length + 1) ((besK zs hs v).map (Value.int .i64) ++ [.int .i64 (el hs v * 2 ^ zs.length)]))
    (hgr3 : ((wr.alloc o).drew).grownBy w3 u.ownBlock) (hat : u.ownBlock = some gg ∨ gg = wr.heap.size + 1) :
    BesI W k N zs hs (v + 1) (w3.setCell ⟨k, 1, none⟩ (.slice (some ⟨gg, 0, none⟩) ((besK zs hs v).length + 1) cp)) := by
  have hkr : k < wr.heap.size := (Array.getElem?_eq_some_iff.1 hX).1
  have hX3 : w3.heap[k]? = some (.cells #[.int .i64 N, u] 28 (0, 0)) := (hgr3.block k (by simp; omega) (fun e => hne e.symm)).trans (heap_old_at hX _)
  have hgk : gg ≠ k := by
    rcases hat with h | h
    · intro e; subst e; exact hne h
    · omega
  have h3 : Own w3 W.heap.size (.slice (some ⟨gg, 0, none⟩) ((besK zs hs v).length + 1) cp) (besK zs hs (v + 1)) := by
    show World.ownsRow _ _ _ _ _ _ _
    rw [besK_succ zs hs v hv, List.map_append, List.length_append]
    exact hown3
  have hB3 : Below W.heap.size W w3 := ((hB.alloc hB.size o).drew).grown hgr3 (by simp; have := hB.size; omega) (fun j e => (World.ownsRow.lt hO j e).1)
  refine ⟨_, heap_setCell_same w3 k 1 _ _ _ hX3, h3.kept (grown_set ⟨rfl, rfl, rfl, Nat.le_refl _, fun _ _ _ => rfl⟩ k 1 _) (.inr ?_), ?_, hB3.setCell (p := ⟨k, 1, none⟩) hk _⟩
  · simp [Value.ownBlock]; exact hgk
  · simp [Value.ownBlock]; exact hgk

set_option maxRecDepth 100000 in
set_option maxHeartbeats 3200000 in
theorem l01Beside_some (b off cap b2 off2 cap2 : Nat) (zs hs : List Int) (w : World) (hb : b < w.heap.size) (hc : Cells w b off zs) (hb2 : b2 < w.heap.size) (hc2 : Cells w b2 off2 hs)
    (hz : ∀ i, i < hs.length → 0 ≤ el hs i ∧ el hs i ≤ 2 ^ hs.length - 1) (hnm : zs.length + hs.length ≤ 62) :
    Calls Tryd.prog 69 #[.agg #[.int .i64 zs.length, .slice (some ⟨b, off, none⟩) zs.length cap], .agg #[.int .i64 hs.length, .slice (some ⟨b2, off2, none⟩) hs.length cap2]] w fun e w' => ∃ u, e = .returned (.agg #[.int .i64 (zs.length + hs.length), u]) ∧ Own w' w.heap.size u (besL zs hs) ∧ Below w.heap.size w w' := by
  obtain ⟨i0, hi, hz0, hz1, hz2⟩ := info_parts mk_info
  have HI := Lib.hid hi; have HI0 := Lib.hid hz0; have HI1 := Lib.hid hz1; have HI2 := Lib.hid hz2
  clear hi hz0 hz1 hz2
  obtain ⟨W, hW⟩ : ∃ W, W = (((w.alloc (.cells #[.int .i64 zs.length, .slice (some ⟨b, off, none⟩) zs.length cap] 28)).alloc (.cells #[.int .i64 hs.length, .slice (some ⟨b2, off2, none⟩) hs.length cap2] 28)).alloc (.cells #[.int .i64 0, .slice none 0 0] 28)) := ⟨_, rfl⟩
  have D0 : Below w.heap.size w W := by rw [hW]; exact (((Below.refl _ _).alloc (Nat.le_refl _) _).alloc (by simp) _).alloc (by simp; omega) _
  have hsz : W.heap.size = w.heap.size + 3 := by rw [hW]; simp
  have K2 : W.heap[w.heap.size]? = some (.cells #[.int .i64 zs.length, .slice (some ⟨b, off, none⟩) zs.length cap] 28 (0, 0)) := by rw [hW]; exact heap_old_at (heap_old_at (heap_new_at w (.cells #[.int .i64 zs.length, .slice (some ⟨b, off, none⟩) zs.length cap] 28) w.heap.size rfl) _) _
  have K3 : W.heap[w.heap.size + 1]? = some (.cells #[.int .i64 hs.length, .slice (some ⟨b2, off2, none⟩) hs.length cap2] 28 (0, 0)) := by rw [hW]; exact heap_old_at (heap_new_at (w.alloc (.cells #[.int .i64 zs.length, .slice (some ⟨b, off, none⟩) zs.length cap] 28)) (.cells #[.int .i64 hs.length, .slice (some ⟨b2, off2, none⟩) hs.length cap2] 28) (w.heap.size + 1) (by simp)) _
  have K4 : W.heap[w.heap.size + 2]? = some (.cells #[.int .i64 0, .slice none 0 0] 28 (0, 0)) := by rw [hW]; exact heap_new_at ((w.alloc (.cells #[.int .i64 zs.length, .slice (some ⟨b, off, none⟩) zs.length cap] 28)).alloc (.cells #[.int .i64 hs.length, .slice (some ⟨b2, off2, none⟩) hs.length cap2] 28)) (.cells #[.int .i64 0, .slice none 0 0] 28) (w.heap.size + 2) (by simp)
  have hcw := hc.below D0 hb
  have hcon : ∀ W', Below W.heap.size W W' → Calls Tryd.prog 95 #[.slice (some ⟨b, off, none⟩) zs.length cap] W' fun e w' => ∃ u, e = .returned u ∧ Own w' W'.heap.size u zs ∧ Below W'.heap.size W' w' ∧ Below W.heap.size W w' ∧ W.heap.size ≤ W'.heap.size := fun W' h =>
    (l01Own_some b off cap zs W' (by have := h.size; omega) (hcw.below h (by omega)) (by omega)).mono fun e w' ⟨u, he, ho, hb'⟩ => ⟨u, he, ho, hb', h.trans (hb'.mono h.size), h.size⟩
  have HC := Lib.hid hcon
  have C2 := Lib.hid (hc2.below D0 hb2)
  have HK2 := Lib.hid K2; have HK3 := Lib.hid K3; have HK4 := Lib.hid K4; have HSZ := Lib.hid hsz; have HZ := Lib.hid hz
  clear hcon hcw K2 K3 K4 hsz hz hc hc2
  go_enter Tryd.func69, Tryd.ntmps69
  go_upto_region 1 with fail
  rw [← hW]
  clear hW
  obtain ⟨a0, a1, -, -⟩ := two_cells HK2.out
  obtain ⟨a2, a3, -, -⟩ := two_cells HK3.out
  go_cut [5] (fun t5 wx => ∃ (k : Nat) (u : Value), t5 = .pointer (some ⟨k, 0, none⟩) ∧ wx.heap[k]? = some (.cells #[.int .i64 (zs.length + hs.length), u] 28 (0, 0)) ∧ Own wx W.heap.size u zs ∧ Below W.heap.size W wx ∧ W.heap.size ≤ k ∧ u.ownBlock ≠ some k)
  case first =>
    have hsum : IntKind.i64.wrap ((zs.length : Int) + (hs.length : Int)) = (zs.length : Int) + (hs.length : Int) := IntWalk.i64_in _ ⟨by omega, by omega⟩
    have hS : w.heap.size + 3 ≤ W.heap.size := by have := HSZ.out; omega
    have n0 : ¬ w.heap.size = W.heap.size := by omega
    have n1 : ¬ W.heap.size = w.heap.size := by omega
    have n2 : ¬ w.heap.size + 1 = W.heap.size := by omega
    have n3 : ¬ W.heap.size = w.heap.size + 1 := by omega
    go_region_held3 (fun w' => w'.cell? ⟨w.heap.size, 0, none⟩ = some (.int .i64 zs.length) ∧ w'.cell? ⟨w.heap.size, 1, none⟩ = some (.slice (some ⟨b, off, none⟩) zs.length cap) ∧ w'.cell? ⟨w.heap.size + 1, 0, none⟩ = some (.int .i64 hs.length))
      (first | go_keep | (trace_state; fail))
      (first
        | (go_at_call 95; (with_reducible refine (HC.out _ ((Below.refl _ _).drew)).mono ?_); rintro e w1 ⟨u, rfl, hO, hb1, hBW, hle⟩; obtain ⟨ua, ul, uc, rfl⟩ := slice_of hO; obtain ⟨q0, q1, -, -⟩ := two_cells ((hBW.block w.heap.size (by omega)).trans HK2.out); obtain ⟨q2, q3, -, -⟩ := two_cells ((hBW.block (w.heap.size + 1) (by omega)).trans HK3.out))
        | (go_at_call 95; (with_reducible refine (HC.out _ (((Below.refl _ _).alloc (Nat.le_refl _) _).drew)).mono ?_); rintro e w1 ⟨u, rfl, hO, hb1, hBW, hle⟩; obtain ⟨ua, ul, uc, rfl⟩ := slice_of hO; obtain ⟨q0, q1, -, -⟩ := two_cells ((hBW.block w.heap.size (by omega)).trans HK2.out); obtain ⟨q2, q3, -, -⟩ := two_cells ((hBW.block (w.heap.size + 1) (by omega)).trans HK3.out); obtain ⟨r0, r1, g0, g1⟩ := two_cells ((hb1.block W.heap.size (by simp)).trans (World.alloc_heap_new W (.cells #[.int .i64 0, .slice none 0 0] 28))))
        | (go_at_call 95; (with_reducible refine (HC.out _ (((Below.refl _ _).drew).alloc (Nat.le_refl _) _)).mono ?_); rintro e w1 ⟨u, rfl, hO, hb1, hBW, hle⟩; obtain ⟨ua, ul, uc, rfl⟩ := slice_of hO; obtain ⟨q0, q1, -, -⟩ := two_cells ((hBW.block w.heap.size (by omega)).trans HK2.out); obtain ⟨q2, q3, -, -⟩ := two_cells ((hBW.block (w.heap.size + 1) (by omega)).trans HK3.out); obtain ⟨r0, r1, g0, g1⟩ := two_cells ((hb1.block W.heap.size (by simp)).trans (World.alloc_heap_new W (.cells #[.int .i64 0, .slice none 0 0] 28)))))
    · go_wp2_with fail
      go_meet
      exact ⟨w1.heap.size, _, rfl, World.alloc_heap_new w1 _, (hO.base hle).below ((Below.refl _ _).alloc (Nat.le_refl _) _), hBW.alloc hBW.size _, hBW.size, fun e => by have := hO.lt _ e; omega⟩
    · go_wp2_with fail
      go_meet
      have hfin := two_set (a := .int .i64 (zs.length + hs.length)) (b := .slice ua ul uc) ((hb1.block W.heap.size (by simp)).trans (World.alloc_heap_new W (.cells #[.int .i64 0, .slice none 0 0] 28)))
      have hgr : w1.grownBy ((w1.setCell ⟨W.heap.size, 0, none⟩ (.int .i64 (zs.length + hs.length))).setCell ⟨W.heap.size, 1, none⟩ (.slice ua ul uc)) (some W.heap.size) := grown_set (grown_set ⟨rfl, rfl, rfl, Nat.le_refl _, fun _ _ _ => rfl⟩ _ 0 _) _ 1 _
      have hne : (Value.slice ua ul uc).ownBlock ≠ some W.heap.size := fun e => by have := hO.ge _ e; simp at this; omega
      exact ⟨W.heap.size, _, rfl, hfin, (hO.base hle).kept hgr (.inr hne), (hBW.setCell (p := ⟨W.heap.size, 0, none⟩) (Nat.le_refl _) _).setCell (p := ⟨W.heap.size, 1, none⟩) (Nat.le_refl _) _, Nat.le_refl _, hne⟩
  case rest =>
    obtain ⟨k, u, rfl, hX, hO, hBW, hk, hne⟩ := hcut
    have HX := Lib.hid hX; have HO := Lib.hid hO
    have hkk : k < wc.heap.size := (Array.getElem?_eq_some_iff.1 hX).1
    have hS : w.heap.size + 3 ≤ W.heap.size := by have := HSZ.out; omega
    have I0 : Hid (BesI W k (zs.length + hs.length) zs hs 0 wc) := ⟨u, hX, by rw [besK_zero]; exact hO, hne, hBW⟩
    clear hX hO a0 a1 a2 a3 hne
    go_wp2
    go_loopw [6] (fun i wr => ∃ v : Nat, v ≤ hs.length ∧ i = .int .i64 v ∧ Hid (BesI W k (zs.length + hs.length) zs hs v wr)) (fun i _ => hs.length - (intOf i).toNat)
    case atStart => exact ⟨0, Nat.zero_le _, rfl, I0⟩
    case round =>
      obtain ⟨v, hv, rfl, HI2⟩ := hrel
      obtain ⟨u, hX, hO, hne, hB⟩ := HI2.out
      obtain ⟨ua, ul, uc, rfl⟩ := slice_of hO
      obtain ⟨a0, a1, -, -⟩ := two_cells ((hB.block w.heap.size (by omega)).trans HK2.out)
      obtain ⟨a2, a3, -, -⟩ := two_cells ((hB.block (w.heap.size + 1) (by omega)).trans HK3.out)
      obtain ⟨x0, x1, fx0, fx1⟩ := two_cells hX
      by_cases hlt : (v : Int) < hs.length
      · have hvl : v < hs.length := by omega
        have hz : wr.cell? ⟨b2, off2 + v, none⟩ = some (.int .i64 (el hs v)) := (C2.out.below hB (by omega)) v hvl
        have hv0 : (0 : Int) ≤ v := by omega
        have hlt1 : (v : Int) < (hs.length : Int) := hlt
        obtain ⟨f0, f1⟩ := bes_fits (el hs v) zs.length hs.length (HZ.out v hvl).1 (HZ.out v hvl).2 hnm
        have wu := zext_small (zs.length : Int) (by omega) (by omega)
        have wm := min_small (zs.length : Int) (by omega)
        have ww : IntKind.i64.wrap (el hs v * 2 ^ zs.length) = el hs v * 2 ^ zs.length := IntWalk.i64_in _ ⟨by omega, by omega⟩
        have hln := besK_length zs hs v hv
        have hge := hO.ge
        have hown : wr.ownsRow W.heap.size 2 1 (.slice ua ul uc) (besK zs hs v).length ((besK zs hs v).map (Value.int .i64)) := hO
        have HOW := Lib.hid hown
        have HLN := Lib.hid hln
        have HGE := Lib.hid hge
        have HXX := Lib.hid hX
        have HBB := Lib.hid hB
        have HNE := Lib.hid hne
        have hkr : k < wr.heap.size := (Array.getElem?_eq_some_iff.1 hX).1
        have hkw : W.heap.size ≤ wr.heap.size := hB.size
        have n0 : ¬ w.heap.size = k := by omega
        have n1 : ¬ k = w.heap.size := by omega
        have n2 : ¬ w.heap.size + 1 = k := by omega
        have n3 : ¬ k = w.heap.size + 1 := by omega
        have n4 : ¬ b2 = k := by omega
        have n5 : ¬ k = b2 := by omega
        have y1 : (wr.alloc (.cells #[.int .i64 (el hs v * 2 ^ zs.length)] 2)).cell? ⟨k, 1, none⟩ = some (.slice ua ul uc) := (World.cell?_alloc_lt _ _ _ hkr).trans x1
        clear hlt hX hO hne hB hown hln hge HI2
        go_wp2_with fail
        go_region_law ((refine step_append_lies _ (by rfl) _ _ _ (by rfl) W.heap.size 2 i0 _ 1 8 Tryd.underlying22 HI.out HI0.out HI1.out HI2.out (by rfl) (by decide) (.slice ua ul uc) (besK zs hs v).length _ (by rfl) ((World.ownsRow.alloc HOW.out _).drew) ⟨wr.heap.size, 0, none⟩ 1 1 [.int .i64 (el hs v * 2 ^ zs.length)] (by rfl) (by rfl) (World.news_of_block (cs := #[.int .i64 (el hs v * 2 ^ zs.length)]) (t := 2) (fr := (0, 0)) (World.alloc_heap_new wr _)) (by simp [Value.oneCell']) (by omega) (by have := HLN.out; unfold maxLen; omega) (by have := HLN.out; omega) (by simp; omega) (wr.heap.size + 1) (by simp) ?_; intro gg cp w3 hown3 hgr3 hat3 hlt3; have HX3 := Lib.hid ((hgr3.block k (by simp; omega) (fun e => HNE.out e.symm)).trans (heap_old_at HXX.out _)); obtain ⟨z0, z1, fz0, fz1⟩ := two_cells HX3.out; have HO3 := Lib.hid hown3; have HG3 := Lib.hid hgr3; have HL3 := Lib.hid hlt3; have HAT := Lib.hid hat3; clear hown3 hgr3 hat3 hlt3))
        all_goals
          have HN := Lib.hid (besI_step hvl HXX.out HOW.out HNE.out HBB.out hk HO3.out HG3.out HAT.out)
          go_wp2
          go_roundw
          case rel => exact ⟨v + 1, by omega, by go_num, HN⟩
          case measure => simp [intOf]; omega
      · have hvl : v = hs.length := by omega
        subst hvl
        have RB := Lib.hid ((hB.block (w.heap.size + 2) (by omega)).trans HK4.out)
        obtain ⟨r0, r1, g0, g1⟩ := two_cells RB.out
        have HO2 := Lib.hid hO
        have HDF := Lib.hid (D0.trans (hB.mono D0.size))
        clear hO HI2 a0 a1 hB hX
        go_wp2
        have hfin := two_set (a := .int .i64 (zs.length + hs.length)) (b := .slice ua ul uc) RB.out
        have hgr : wr.grownBy ((wr.setCell ⟨w.heap.size + 2, 0, none⟩ (.int .i64 (zs.length + hs.length))).setCell ⟨w.heap.size + 2, 1, none⟩ (.slice ua ul uc)) (some (w.heap.size + 2)) := grown_set (grown_set ⟨rfl, rfl, rfl, Nat.le_refl _, fun _ _ _ => rfl⟩ _ 0 _) _ 1 _
        refine bodyPost_ret (v := .agg #[.int .i64 (zs.length + hs.length), .slice ua ul uc]) (results_cell_row (p := 4) (ty := 28) rfl _ _ (w.heap.size + 2) 28 _ (0, 0) _ rfl hfin Tryd.underlying28 rfl (by exact info27)) rfl ⟨_, rfl, ?_, ?_⟩
        · have h := HO2.out
          rw [besK_all] at h
          exact (h.kept hgr (.inr (fun e => by have := h.ge _ e; omega))).base (by omega)
        · exact (HDF.out.setCell (p := ⟨w.heap.size + 2, 0, none⟩) (by simp) _).setCell (p := ⟨w.heap.size + 2, 1, none⟩) (by simp) _
end Go.Proofs.YtbpcdgfcdahnlaaDoor
