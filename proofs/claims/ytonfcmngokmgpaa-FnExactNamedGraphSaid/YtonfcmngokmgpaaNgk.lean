/-
  spec.l01Complement, spec.l01Beside. (gen: mk_ngk.py)
-/
import Derived.Test.YtonfcmngokmgpaaNgi
import Derived.BigRegion
import Derived.Deep.AppendLies
import Derived.Deep.DeepCutAuto
import Derived.Deep.RegionLaw
namespace Go.Proofs.Ytonfcmngokmgpaa
set_option maxRecDepth 100000
open Go.RowKit

/-- The box H holds a graph value whose rows lie at off of block b. -/
def GBox (w : World) (H : Nat) (n : Int) (b off cap : Nat) (zs : List Int) : Prop :=
  w.cell? ⟨H, 0, none⟩ = some (.int .i64 n) ∧ w.cell? ⟨H, 1, none⟩ = some (.slice (some ⟨b, off, none⟩) zs.length cap) ∧ Cells w b off zs ∧ b ≤ H ∧ H < w.heap.size
theorem GBox.b0 {w : World} {H : Nat} {n : Int} {b off cap : Nat} {zs : List Int} (h : GBox w H n b off cap zs) : w.cell? ⟨H, 0, none⟩ = some (.int .i64 n) := h.1
theorem GBox.b1 {w : World} {H : Nat} {n : Int} {b off cap : Nat} {zs : List Int} (h : GBox w H n b off cap zs) : w.cell? ⟨H, 1, none⟩ = some (.slice (some ⟨b, off, none⟩) zs.length cap) := h.2.1
theorem GBox.cells {w : World} {H : Nat} {n : Int} {b off cap : Nat} {zs : List Int} (h : GBox w H n b off cap zs) : Cells w b off zs := h.2.2.1
theorem GBox.lt {w : World} {H : Nat} {n : Int} {b off cap : Nat} {zs : List Int} (h : GBox w H n b off cap zs) : H + 1 ≤ w.heap.size := h.2.2.2.2
theorem GBox.lb {w : World} {H : Nat} {n : Int} {b off cap : Nat} {zs : List Int} (h : GBox w H n b off cap zs) : b < w.heap.size := Nat.lt_of_le_of_lt h.2.2.2.1 h.2.2.2.2
theorem GBox.below {w w' : World} {H : Nat} {n : Int} {b off cap : Nat} {zs : List Int} (h : GBox w H n b off cap zs) (hb : Below (H + 1) w w') : GBox w' H n b off cap zs :=
  ⟨(hb.cell (p := ⟨H, 0, none⟩) (Nat.lt_succ_self _)).trans h.1, (hb.cell (p := ⟨H, 1, none⟩) (Nat.lt_succ_self _)).trans h.2.1, h.2.2.1.below hb (Nat.lt_succ_of_le h.2.2.2.1), h.2.2.2.1, Nat.lt_of_lt_of_le h.2.2.2.2 hb.size⟩
theorem GBox.new {w : World} {n : Int} {b off cap : Nat} {zs : List Int} (hb : b < w.heap.size) (hc : Cells w b off zs) :
    GBox (w.alloc (.cells #[.int .i64 n, .slice (some ⟨b, off, none⟩) zs.length cap] 24)) w.heap.size n b off cap zs :=
  ⟨by simp, by simp, fun i hi => (World.cell?_alloc_lt _ _ _ hb).trans (hc i hi), Nat.le_of_lt hb, by simp⟩
theorem GBox.drewN {w : World} {H : Nat} {n : Int} {b off cap : Nat} {zs : List Int} (h : GBox w H n b off cap zs) (m : Nat) : GBox (w.drewN m) H n b off cap zs := h.below (drewN_below (Below.refl _ _) m)

/-- The complement's rows. -/
def compL (zs : List Int) : List Int := (List.range zs.length).map fun v => 2 ^ zs.length - 1 - el zs v - 2 ^ v
theorem compL_length (zs : List Int) : (compL zs).length = zs.length := by simp [compL]
theorem el_compL (zs : List Int) (v : Nat) (h : v < zs.length) : el (compL zs) v = 2 ^ zs.length - 1 - el zs v - 2 ^ v := by simp [el, compL, h]

set_option maxHeartbeats 1600000 in
theorem l01Compl_some (b off cap : Nat) (zs : List Int) (w : World) (hb : b < w.heap.size) (hc : Cells w b off zs) (hl62 : zs.length ≤ 62) (hr : ∀ v, v < zs.length → (0 ≤ el zs v ∧ el zs v ≤ 2 ^ zs.length - 1) ∧ 0 ≤ (2 : Int) ^ zs.length - 1 - el zs v - 2 ^ v) :
    Calls Try.prog 24 #[.agg #[.int .i64 zs.length, .slice (some ⟨b, off, none⟩) zs.length cap]] w fun e w' => e = .returned (.agg #[.int .i64 zs.length, .slice (some ⟨w.heap.size + 3, 0, none⟩) zs.length zs.length]) ∧ Blk w' (w.heap.size + 3) (compL zs) ∧ Below w.heap.size w w' := by
  have HR := Lib.hid hr
  have hp := pow_bounds zs.length hl62
  have HP := Lib.hid hp
  clear hp
  have hcon := specEmpty_any zs.length ((w.alloc (.cells #[.int .i64 zs.length, .slice (some ⟨b, off, none⟩) zs.length cap] 24)).alloc (.cells #[.int .i64 0, .slice none 0 0] 24)) (by omega)
  simp only [World.size_alloc] at hcon
  have HG0 := Lib.hid (GBox.new (n := zs.length) (cap := cap) hb hc)
  have HH1 := Lib.hid (heap_new_at (w.alloc (.cells #[.int .i64 zs.length, .slice (some ⟨b, off, none⟩) zs.length cap] 24)) (.cells #[.int .i64 0, .slice none 0 0] 24) (w.heap.size + 1) (by simp))
  have hb2 : Below w.heap.size w ((w.alloc (.cells #[.int .i64 zs.length, .slice (some ⟨b, off, none⟩) zs.length cap] 24)).alloc (.cells #[.int .i64 0, .slice none 0 0] 24)) := ((Below.refl _ _).alloc (Nat.le_refl _) _).alloc (by simp) _
  clear hc hr
  go_enter Try.func24, Try.ntmps24
  have b0 := HG0.out.b0
  have b1 := HG0.out.b1
  go_wp2_with (go_at_call 25; refine hcon.mono ?_; rintro e w1 ⟨rfl, hB1, hb1⟩)
  have l1 := hB1.lt
  have G1 := HG0.out.below ((Below.refl (w.heap.size + 1) _).alloc (by simp) (.cells #[.int .i64 0, .slice none 0 0] 24))
  have G2 := G1.below (hb1.mono (by omega))
  have H1 := Lib.hid ((hb1.block (w.heap.size + 1) (by omega)).trans HH1.out)
  have E1 := hb2.trans (hb1.mono (by omega))
  obtain ⟨w2, h2⟩ : ∃ w2, w2 = w1.alloc (.cells #[.int .i64 zs.length, .slice (some ⟨w.heap.size + 1 + 1 + 1, 0, none⟩) zs.length zs.length] 24) := ⟨_, rfl⟩
  have X2 : Hid (w2.heap[w1.heap.size]? = some (.cells #[.int .i64 zs.length, .slice (some ⟨w.heap.size + 1 + 1 + 1, 0, none⟩) zs.length zs.length] 24 (0, 0))) := by rw [h2]; exact World.alloc_heap_new w1 _
  have hb3 : Below w1.heap.size w1 w2 := by rw [h2]; exact (Below.refl _ _).alloc (Nat.le_refl _) _
  rw [← h2]
  clear h2 b0 b1 hb1 hcon
  go_loopw [4] (fun i wr => ∃ v : Nat, v ≤ zs.length ∧ i = .int .i64 v ∧ Hid (Blk wr (w.heap.size + 1 + 1 + 1) (part (compL zs) v)) ∧ Hid (wr.heap[w1.heap.size]? = some (.cells #[.int .i64 zs.length, .slice (some ⟨w.heap.size + 1 + 1 + 1, 0, none⟩) zs.length zs.length] 24 (0, 0))) ∧ Below (w.heap.size + 1 + 1) w2 wr) (fun i _ => zs.length - (intOf i).toNat)
  case atStart => exact ⟨0, Nat.zero_le _, rfl, by show Blk _ _ _; rw [part_zero, compL_length]; exact hB1.belowAll hb3, X2, Below.refl _ _⟩
  case round =>
    obtain ⟨v, hv, rfl, HO, HX, hB⟩ := hrel
    have G3 := G2.below (hb3.mono (by omega))
    have G4 := G3.below (hB.mono (by omega))
    have b0 := G4.b0
    have b1 := G4.b1
    obtain ⟨x0, x1, -, -⟩ := two_cells HX.out
    by_cases hlt : (v : Int) < zs.length
    · have hvl : v < zs.length := by omega
      have hz : wr.cell? ⟨b, off + v, none⟩ = some (.int .i64 (el zs v)) := G4.cells v hvl
      have hv0 : (0 : Int) ≤ v := by omega
      have hpl := part_length (compL zs) v (by rw [compL_length]; exact hv)
      rw [compL_length] at hpl
      have hcell : wr.cell? ⟨w.heap.size + 1 + 1 + 1, v, none⟩ = some (.int .i64 (el (part (compL zs) v) v)) := HO.out.cell (by omega)
      have hfr : wr.frozen? ⟨w.heap.size + 1 + 1 + 1, v, none⟩ = false := HO.out.frozen v
      obtain ⟨⟨z0, z1⟩, z2⟩ := HR.out v hvl
      obtain ⟨p1, p2⟩ := HP.out
      obtain ⟨q1, q2⟩ := pow_bounds v (by omega)
      have HS : Hid (Blk (wr.setCell ⟨w.heap.size + 1 + 1 + 1, v, none⟩ (.int .i64 (2 ^ zs.length - 1 - el zs v - 2 ^ v))) (w.heap.size + 1 + 1 + 1) (part (compL zs) (v + 1))) := by
        show Blk _ _ _
        rw [← part_succ (compL zs) v (by rw [compL_length]; exact hvl), el_compL zs v hvl]
        exact HO.out.set v _
      have HX2 : Hid ((wr.setCell ⟨w.heap.size + 1 + 1 + 1, v, none⟩ (.int .i64 (2 ^ zs.length - 1 - el zs v - 2 ^ v))).heap[w1.heap.size]? = _) := (Below.heap_setCell wr ⟨w.heap.size + 1 + 1 + 1, v, none⟩ _ w1.heap.size (by simp; omega)).trans HX.out
      have hBs := hB.setCell (p := ⟨w.heap.size + 1 + 1 + 1, v, none⟩) (by simp) (.int .i64 (2 ^ zs.length - 1 - el zs v - 2 ^ v))
      clear hpl HO HX G4 G3
      go_wp2
      go_region
      go_wp2
      go_roundw
      case rel => exact ⟨v + 1, by omega, by go_num, HS, HX2, hBs.drew⟩
      case measure => simp [intOf]; omega
    · have hvl : v = zs.length := by omega
      subst hvl
      have RB := Lib.hid ((hB.block (w.heap.size + 1) (by omega)).trans ((hb3.block (w.heap.size + 1) (by omega)).trans H1.out))
      obtain ⟨r0, r1, g0, g1⟩ := two_cells RB.out
      have HF : Hid (Blk wr (w.heap.size + 1 + 1 + 1) (compL zs)) := by
        have h := HO.out
        have e := part_all (compL zs)
        rw [compL_length] at e
        rw [e] at h
        exact h
      clear HO G4 G3
      go_wp2
      have hfin := two_set (a := .int .i64 zs.length) (b := .slice (some ⟨w.heap.size + 1 + 1 + 1, 0, none⟩) zs.length zs.length) RB.out
      refine bodyPost_ret (v := .agg #[.int .i64 zs.length, .slice (some ⟨w.heap.size + 3, 0, none⟩) zs.length zs.length]) (results_cell_row (p := 2) (ty := 24) rfl _ _ (w.heap.size + 1) 24 _ (0, 0) _ rfl hfin Try.underlying24 rfl (by exact info27)) rfl ⟨rfl, ?_, ?_⟩
      · exact (HF.out.other (by simp; omega) _).other (by simp; omega) _
      · exact ((E1.trans ((hb3.mono (by omega)).trans (hB.mono (by omega)))).setCell (p := ⟨w.heap.size + 1, 0, none⟩) (by simp) _).setCell (p := ⟨w.heap.size + 1, 1, none⟩) (by simp) _
theorem slice_of {w : World} {B : Nat} {u : Value} {L : List Int} (h : Own w B u L) : ∃ a l c, u = .slice a l c := by
  rcases h.form with ⟨rfl, _⟩ | ⟨g, cap, rfl, _⟩
  · exact ⟨_, _, _, rfl⟩
  · exact ⟨_, _, _, rfl⟩
set_option maxHeartbeats 800000 in
theorem l01Own_some (b off cap : Nat) (zs : List Int) (w : World) (hb : b < w.heap.size) (hc : Cells w b off zs) (hl : zs.length ≤ 62) :
    Calls Try.prog 32 #[.slice (some ⟨b, off, none⟩) zs.length cap] w fun e w' => ∃ u, e = .returned u ∧ Own w' w.heap.size u zs ∧ Below w.heap.size w w' := by
  obtain ⟨i0, hi, hz0, hz1, hz2⟩ := info_parts mk_info
  have HI := Lib.hid hi; have HI0 := Lib.hid hz0; have HI1 := Lib.hid hz1; have HI2 := Lib.hid hz2
  clear hi hz0 hz1 hz2
  have D0 : Below w.heap.size w (w.alloc (.cells #[] 2)) := (Below.refl _ _).alloc (Nat.le_refl _) _
  have hnil : (w.alloc (.cells #[] 2)).ownsRow w.heap.size 2 1 (.slice (some ⟨w.heap.size, 0, none⟩) 0 0) 0 [] := World.ownsRow_made w #[] 0 (base := w.heap.size) (e := 2) (size := 1) (Nat.le_refl _) (by decide) rfl
  have hcc := Lib.hid (hc.below D0 hb)
  have hnews : ∀ j u, (zs.map (Value.int .i64))[j]? = some u → (w.alloc (.cells #[] 2)).cell? ((⟨b, off, none⟩ : Addr).add j) = some u := by
    intro j u hj
    have hjl : j < zs.length := by
      have := (List.getElem?_eq_some_iff.1 hj).1
      simpa using this
    rw [map_at zs j hjl] at hj
    cases hj
    have hz := hcc.out j hjl
    simp only [Addr.add]
    split
    · rename_i h0; subst h0; simpa using hz
    · exact hz
  have HN := Lib.hid hnews
  have HW := Lib.hid hnil
  clear hnews hnil hc
  go_enter Try.func32, Try.ntmps32
  go_wp2_with (at_builtin; refine wpList_append_own _ rfl _ _ 22 rfl w.heap.size 2 i0 (.int .i64 0) 1 8 Try.underlying22 HI.out HI0.out HI1.out HI2.out rfl (by decide) _ _ _ rfl HW.out ⟨b, off, none⟩ zs.length cap (zs.map (Value.int .i64)) rfl (by simp) HN.out (by simp [Value.oneCell']) (by unfold maxLen; omega) (by omega) (by simp) ?_; intro u' w3 hown3 hgr3 _)
  have E3 := D0.grown hgr3 (by simp) (fun k e => (World.ownsRow.lt HW.out k e).1)
  have HO : Hid (Own w3 w.heap.size u' zs) := by
    show World.ownsRow _ _ _ _ _ _ _
    rw [Nat.zero_add, List.nil_append] at hown3
    exact hown3
  clear hown3 hgr3
  go_wp2
  go_ret
  exact ⟨_, rfl, HO.out, E3⟩
def besL (zs hs : List Int) : List Int := zs ++ hs.map fun r => r * 2 ^ zs.length
theorem besL_length (zs hs : List Int) : (besL zs hs).length = zs.length + hs.length := by simp [besL]
theorem el_besL (zs hs : List Int) (v : Nat) (h : v < hs.length) : el (besL zs hs) (zs.length + v) = el hs v * 2 ^ zs.length := by
  simp [el, besL, h]
theorem besL_part (zs hs : List Int) : part (besL zs hs) zs.length = zs ++ List.replicate hs.length 0 := by
  simp [part, besL]
theorem bes_fits (z : Int) (n m : Nat) (h0 : 0 ≤ z) (h1 : z ≤ 2 ^ m - 1) (hnm : n + m ≤ 62) : 0 ≤ z * 2 ^ n ∧ z * 2 ^ n ≤ 4611686018427387904 := by
  obtain ⟨k, rfl⟩ := Int.eq_ofNat_of_zero_le h0
  have e : ((2 : Int) ^ m) = ((2 ^ m : Nat) : Int) := by simp
  have en : ((2 : Int) ^ n) = ((2 ^ n : Nat) : Int) := by simp
  rw [e] at h1
  have hk : k < 2 ^ m := by have := Nat.two_pow_pos m; omega
  have h2 : k * 2 ^ n < 2 ^ m * 2 ^ n := Nat.mul_lt_mul_of_pos_right hk (Nat.two_pow_pos n)
  rw [← Nat.pow_add] at h2
  have h3 : 2 ^ (m + n) ≤ 2 ^ 62 := Nat.pow_le_pow_right (by decide) (by omega)
  rw [en, ← Int.natCast_mul]
  omega

/-- The rows of the first graph and the first v of the second one. -/
def besK (zs hs : List Int) (v : Nat) : List Int := zs ++ (hs.take v).map fun r => r * 2 ^ zs.length
theorem besK_zero (zs hs : List Int) : besK zs hs 0 = zs := by simp [besK]
theorem besK_all (zs hs : List Int) : besK zs hs hs.length = besL zs hs := by simp [besK, besL]
theorem besK_length (zs hs : List Int) (v : Nat) (h : v ≤ hs.length) : (besK zs hs v).length = zs.length + v := by simp [besK]; omega
theorem besK_succ (zs hs : List Int) (v : Nat) (h : v < hs.length) : besK zs hs (v + 1) = besK zs hs v ++ [el hs v * 2 ^ zs.length] := by
  unfold besK
  rw [List.take_succ_eq_append_getElem h, List.map_append, ← List.append_assoc, el_lt h]
  rfl

theorem zext_small (n : Int) (h0 : 0 ≤ n) (h1 : n ≤ 62) : IntKind.u64.wrap n = n := IntWalk.u64_in n ⟨h0, by omega⟩

/-- What holds while the second graph's rows are put behind: block k holds the graph, its rows lie elsewhere. -/
def BesI (W : World) (k : Nat) (N : Int) (zs hs : List Int) (v : Nat) (wr : World) : Prop := ∃ u, wr.heap[k]? = some (.cells #[.int .i64 N, u] 24 (0, 0)) ∧ Own wr W.heap.size u (besK zs hs v) ∧ u.ownBlock ≠ some k ∧ Below W.heap.size W wr
theorem besI_step {W wr w3 : World} {k v gg cp : Nat} {N : Int} {zs hs : List Int} {u : Value} (hv : v < hs.length) (hX : wr.heap[k]? = some (.cells #[.int .i64 N, u] 24 (0, 0)))
    (hO : wr.ownsRow W.heap.size 2 1 u (besK zs hs v).length ((besK zs hs v).map (Value.int .i64))) (hne : u.ownBlock ≠ some k) (hB : Below W.heap.size W wr) (hk : W.heap.size ≤ k) {o : Obj}
    (hown3 : w3.ownsRow W.heap.size 2 1 (.slice (some ⟨gg, 0, none⟩) ((besK zs hs v).length + 1) cp) ((besK zs hs v).length + 1) ((besK zs hs v).map (Value.int .i64) ++ [.int .i64 (el hs v * 2 ^ zs.length)]))
    (hgr3 : ((wr.alloc o).drew).grownBy w3 u.ownBlock) (hat : u.ownBlock = some gg ∨ gg = wr.heap.size + 1) :
    BesI W k N zs hs (v + 1) (w3.setCell ⟨k, 1, none⟩ (.slice (some ⟨gg, 0, none⟩) ((besK zs hs v).length + 1) cp)) := by
  have hkr : k < wr.heap.size := (Array.getElem?_eq_some_iff.1 hX).1
  have hX3 : w3.heap[k]? = some (.cells #[.int .i64 N, u] 24 (0, 0)) := (hgr3.block k (by simp; omega) (fun e => hne e.symm)).trans (heap_old_at hX _)
  have hgk : gg ≠ k := by
    rcases hat with h | h
    · intro e; subst e; exact hne h
    · omega
  have h3 : Own w3 W.heap.size (.slice (some ⟨gg, 0, none⟩) ((besK zs hs v).length + 1) cp) (besK zs hs (v + 1)) := by
    show World.ownsRow _ _ _ _ _ _ _
    rw [besK_succ zs hs v hv, List.map_append, List.length_append]
    exact hown3
  have hB3 : Below W.heap.size W w3 := ((hB.alloc hB.size o).drew).grown hgr3 (by simp; have := hB.size; omega) (fun j e => (World.ownsRow.lt hO j e).1)
  refine ⟨_, heap_setCell_same w3 k 1 _ _ _ hX3, h3.kept (grown_set ⟨rfl, rfl, rfl, Nat.le_refl _, fun _ _ _ => rfl⟩ k 1 _) (.inr ?_), ?_, hB3.setCell (p := ⟨k, 1, none⟩) hk _⟩
  · simp [Value.ownBlock]; exact hgk
  · simp [Value.ownBlock]; exact hgk

set_option maxRecDepth 100000 in
set_option maxHeartbeats 3200000 in
theorem l01Beside_some (b off cap b2 off2 cap2 : Nat) (zs hs : List Int) (w : World) (hb : b < w.heap.size) (hc : Cells w b off zs) (hb2 : b2 < w.heap.size) (hc2 : Cells w b2 off2 hs)
    (hz : ∀ i, i < hs.length → 0 ≤ el hs i ∧ el hs i ≤ 2 ^ hs.length - 1) (hnm : zs.length + hs.length ≤ 62) :
    Calls Try.prog 26 #[.agg #[.int .i64 zs.length, .slice (some ⟨b, off, none⟩) zs.length cap], .agg #[.int .i64 hs.length, .slice (some ⟨b2, off2, none⟩) hs.length cap2]] w fun e w' => ∃ u, e = .returned (.agg #[.int .i64 (zs.length + hs.length), u]) ∧ Own w' w.heap.size u (besL zs hs) ∧ Below w.heap.size w w' := by
  obtain ⟨i0, hi, hz0, hz1, hz2⟩ := info_parts mk_info
  have HI := Lib.hid hi; have HI0 := Lib.hid hz0; have HI1 := Lib.hid hz1; have HI2 := Lib.hid hz2
  clear hi hz0 hz1 hz2
  obtain ⟨W, hW⟩ : ∃ W, W = (((w.alloc (.cells #[.int .i64 zs.length, .slice (some ⟨b, off, none⟩) zs.length cap] 24)).alloc (.cells #[.int .i64 hs.length, .slice (some ⟨b2, off2, none⟩) hs.length cap2] 24)).alloc (.cells #[.int .i64 0, .slice none 0 0] 24)) := ⟨_, rfl⟩
  have D0 : Below w.heap.size w W := by rw [hW]; exact (((Below.refl _ _).alloc (Nat.le_refl _) _).alloc (by simp) _).alloc (by simp; omega) _
  have hsz : W.heap.size = w.heap.size + 3 := by rw [hW]; simp
  have K2 : W.heap[w.heap.size]? = some (.cells #[.int .i64 zs.length, .slice (some ⟨b, off, none⟩) zs.length cap] 24 (0, 0)) := by rw [hW]; exact heap_old_at (heap_old_at (heap_new_at w (.cells #[.int .i64 zs.length, .slice (some ⟨b, off, none⟩) zs.length cap] 24) w.heap.size rfl) _) _
  have K3 : W.heap[w.heap.size + 1]? = some (.cells #[.int .i64 hs.length, .slice (some ⟨b2, off2, none⟩) hs.length cap2] 24 (0, 0)) := by rw [hW]; exact heap_old_at (heap_new_at (w.alloc (.cells #[.int .i64 zs.length, .slice (some ⟨b, off, none⟩) zs.length cap] 24)) (.cells #[.int .i64 hs.length, .slice (some ⟨b2, off2, none⟩) hs.length cap2] 24) (w.heap.size + 1) (by simp)) _
  have K4 : W.heap[w.heap.size + 2]? = some (.cells #[.int .i64 0, .slice none 0 0] 24 (0, 0)) := by rw [hW]; exact heap_new_at ((w.alloc (.cells #[.int .i64 zs.length, .slice (some ⟨b, off, none⟩) zs.length cap] 24)).alloc (.cells #[.int .i64 hs.length, .slice (some ⟨b2, off2, none⟩) hs.length cap2] 24)) (.cells #[.int .i64 0, .slice none 0 0] 24) (w.heap.size + 2) (by simp)
  have hcw := hc.below D0 hb
  have hcon : ∀ W', Below W.heap.size W W' → Calls Try.prog 32 #[.slice (some ⟨b, off, none⟩) zs.length cap] W' fun e w' => ∃ u, e = .returned u ∧ Own w' W'.heap.size u zs ∧ Below W'.heap.size W' w' ∧ Below W.heap.size W w' ∧ W.heap.size ≤ W'.heap.size := fun W' h =>
    (l01Own_some b off cap zs W' (by have := h.size; omega) (hcw.below h (by omega)) (by omega)).mono fun e w' ⟨u, he, ho, hb'⟩ => ⟨u, he, ho, hb', h.trans (hb'.mono h.size), h.size⟩
  have HC := Lib.hid hcon
  have C2 := Lib.hid (hc2.below D0 hb2)
  have HK2 := Lib.hid K2; have HK3 := Lib.hid K3; have HK4 := Lib.hid K4; have HSZ := Lib.hid hsz; have HZ := Lib.hid hz
  clear hcon hcw K2 K3 K4 hsz hz hc hc2
  go_enter Try.func26, Try.ntmps26
  go_upto_region 1 with fail
  rw [← hW]
  clear hW
  obtain ⟨a0, a1, -, -⟩ := two_cells HK2.out
  obtain ⟨a2, a3, -, -⟩ := two_cells HK3.out
  go_cut [5] (fun t5 wx => ∃ (k : Nat) (u : Value), t5 = .pointer (some ⟨k, 0, none⟩) ∧ wx.heap[k]? = some (.cells #[.int .i64 (zs.length + hs.length), u] 24 (0, 0)) ∧ Own wx W.heap.size u zs ∧ Below W.heap.size W wx ∧ W.heap.size ≤ k ∧ u.ownBlock ≠ some k)
  case first =>
    have hsum : IntKind.i64.wrap ((zs.length : Int) + (hs.length : Int)) = (zs.length : Int) + (hs.length : Int) := IntWalk.i64_in _ ⟨by omega, by omega⟩
    have hS : w.heap.size + 3 ≤ W.heap.size := by have := HSZ.out; omega
    have n0 : ¬ w.heap.size = W.heap.size := by omega
    have n1 : ¬ W.heap.size = w.heap.size := by omega
    have n2 : ¬ w.heap.size + 1 = W.heap.size := by omega
    have n3 : ¬ W.heap.size = w.heap.size + 1 := by omega
    go_region_held3 (fun w' => w'.cell? ⟨w.heap.size, 0, none⟩ = some (.int .i64 zs.length) ∧ w'.cell? ⟨w.heap.size, 1, none⟩ = some (.slice (some ⟨b, off, none⟩) zs.length cap) ∧ w'.cell? ⟨w.heap.size + 1, 0, none⟩ = some (.int .i64 hs.length))
      (first | go_keep | (trace_state; fail))
      (first
        | (go_at_call 32; (with_reducible refine (HC.out _ ((Below.refl _ _).drew)).mono ?_); rintro e w1 ⟨u, rfl, hO, hb1, hBW, hle⟩; obtain ⟨ua, ul, uc, rfl⟩ := slice_of hO; obtain ⟨q0, q1, -, -⟩ := two_cells ((hBW.block w.heap.size (by omega)).trans HK2.out); obtain ⟨q2, q3, -, -⟩ := two_cells ((hBW.block (w.heap.size + 1) (by omega)).trans HK3.out))
        | (go_at_call 32; (with_reducible refine (HC.out _ (((Below.refl _ _).alloc (Nat.le_refl _) _).drew)).mono ?_); rintro e w1 ⟨u, rfl, hO, hb1, hBW, hle⟩; obtain ⟨ua, ul, uc, rfl⟩ := slice_of hO; obtain ⟨q0, q1, -, -⟩ := two_cells ((hBW.block w.heap.size (by omega)).trans HK2.out); obtain ⟨q2, q3, -, -⟩ := two_cells ((hBW.block (w.heap.size + 1) (by omega)).trans HK3.out); obtain ⟨r0, r1, g0, g1⟩ := two_cells ((hb1.block W.heap.size (by simp)).trans (World.alloc_heap_new W (.cells #[.int .i64 0, .slice none 0 0] 24))))
        | (go_at_call 32; (with_reducible refine (HC.out _ (((Below.refl _ _).drew).alloc (Nat.le_refl _) _)).mono ?_); rintro e w1 ⟨u, rfl, hO, hb1, hBW, hle⟩; obtain ⟨ua, ul, uc, rfl⟩ := slice_of hO; obtain ⟨q0, q1, -, -⟩ := two_cells ((hBW.block w.heap.size (by omega)).trans HK2.out); obtain ⟨q2, q3, -, -⟩ := two_cells ((hBW.block (w.heap.size + 1) (by omega)).trans HK3.out); obtain ⟨r0, r1, g0, g1⟩ := two_cells ((hb1.block W.heap.size (by simp)).trans (World.alloc_heap_new W (.cells #[.int .i64 0, .slice none 0 0] 24)))))
    · go_wp2_with fail
      go_meet
      exact ⟨w1.heap.size, _, rfl, World.alloc_heap_new w1 _, (hO.base hle).below ((Below.refl _ _).alloc (Nat.le_refl _) _), hBW.alloc hBW.size _, hBW.size, fun e => by have := hO.lt _ e; omega⟩
    · go_wp2_with fail
      go_meet
      have hfin := two_set (a := .int .i64 (zs.length + hs.length)) (b := .slice ua ul uc) ((hb1.block W.heap.size (by simp)).trans (World.alloc_heap_new W (.cells #[.int .i64 0, .slice none 0 0] 24)))
      have hgr : w1.grownBy ((w1.setCell ⟨W.heap.size, 0, none⟩ (.int .i64 (zs.length + hs.length))).setCell ⟨W.heap.size, 1, none⟩ (.slice ua ul uc)) (some W.heap.size) := grown_set (grown_set ⟨rfl, rfl, rfl, Nat.le_refl _, fun _ _ _ => rfl⟩ _ 0 _) _ 1 _
      have hne : (Value.slice ua ul uc).ownBlock ≠ some W.heap.size := fun e => by have := hO.ge _ e; simp at this; omega
      exact ⟨W.heap.size, _, rfl, hfin, (hO.base hle).kept hgr (.inr hne), (hBW.setCell (p := ⟨W.heap.size, 0, none⟩) (Nat.le_refl _) _).setCell (p := ⟨W.heap.size, 1, none⟩) (Nat.le_refl _) _, Nat.le_refl _, hne⟩
  case rest =>
    obtain ⟨k, u, rfl, hX, hO, hBW, hk, hne⟩ := hcut
    have HX := Lib.hid hX; have HO := Lib.hid hO
    have hkk : k < wc.heap.size := (Array.getElem?_eq_some_iff.1 hX).1
    have hS : w.heap.size + 3 ≤ W.heap.size := by have := HSZ.out; omega
    have I0 : Hid (BesI W k (zs.length + hs.length) zs hs 0 wc) := ⟨u, hX, by rw [besK_zero]; exact hO, hne, hBW⟩
    clear hX hO a0 a1 a2 a3 hne
    go_wp2
    go_loopw [6] (fun i wr => ∃ v : Nat, v ≤ hs.length ∧ i = .int .i64 v ∧ Hid (BesI W k (zs.length + hs.length) zs hs v wr)) (fun i _ => hs.length - (intOf i).toNat)
    case atStart => exact ⟨0, Nat.zero_le _, rfl, I0⟩
    case round =>
      obtain ⟨v, hv, rfl, HI2⟩ := hrel
      obtain ⟨u, hX, hO, hne, hB⟩ := HI2.out
      obtain ⟨ua, ul, uc, rfl⟩ := slice_of hO
      obtain ⟨a0, a1, -, -⟩ := two_cells ((hB.block w.heap.size (by omega)).trans HK2.out)
      obtain ⟨a2, a3, -, -⟩ := two_cells ((hB.block (w.heap.size + 1) (by omega)).trans HK3.out)
      obtain ⟨x0, x1, fx0, fx1⟩ := two_cells hX
      by_cases hlt : (v : Int) < hs.length
      · have hvl : v < hs.length := by omega
        have hz : wr.cell? ⟨b2, off2 + v, none⟩ = some (.int .i64 (el hs v)) := (C2.out.below hB (by omega)) v hvl
        have hv0 : (0 : Int) ≤ v := by omega
        have hlt1 : (v : Int) < (hs.length : Int) := hlt
        obtain ⟨f0, f1⟩ := bes_fits (el hs v) zs.length hs.length (HZ.out v hvl).1 (HZ.out v hvl).2 hnm
        have wu := zext_small (zs.length : Int) (by omega) (by omega)
        have wm := min_small (zs.length : Int) (by omega)
        have ww : IntKind.i64.wrap (el hs v * 2 ^ zs.length) = el hs v * 2 ^ zs.length := IntWalk.i64_in _ ⟨by omega, by omega⟩
        have hln := besK_length zs hs v hv
        have hge := hO.ge
        have hown : wr.ownsRow W.heap.size 2 1 (.slice ua ul uc) (besK zs hs v).length ((besK zs hs v).map (Value.int .i64)) := hO
        have HOW := Lib.hid hown
        have HLN := Lib.hid hln
        have HGE := Lib.hid hge
        have HXX := Lib.hid hX
        have HBB := Lib.hid hB
        have HNE := Lib.hid hne
        have hkr : k < wr.heap.size := (Array.getElem?_eq_some_iff.1 hX).1
        have hkw : W.heap.size ≤ wr.heap.size := hB.size
        have n0 : ¬ w.heap.size = k := by omega
        have n1 : ¬ k = w.heap.size := by omega
        have n2 : ¬ w.heap.size + 1 = k := by omega
        have n3 : ¬ k = w.heap.size + 1 := by omega
        have n4 : ¬ b2 = k := by omega
        have n5 : ¬ k = b2 := by omega
        have y1 : (wr.alloc (.cells #[.int .i64 (el hs v * 2 ^ zs.length)] 2)).cell? ⟨k, 1, none⟩ = some (.slice ua ul uc) := (World.cell?_alloc_lt _ _ _ hkr).trans x1
        clear hlt hX hO hne hB hown hln hge HI2
        go_wp2_with fail
        go_region_law ((refine step_append_lies _ (by rfl) _ _ _ (by rfl) W.heap.size 2 i0 _ 1 8 Try.underlying22 HI.out HI0.out HI1.out HI2.out (by rfl) (by decide) (.slice ua ul uc) (besK zs hs v).length _ (by rfl) ((World.ownsRow.alloc HOW.out _).drew) ⟨wr.heap.size, 0, none⟩ 1 1 [.int .i64 (el hs v * 2 ^ zs.length)] (by rfl) (by rfl) (World.news_of_block (cs := #[.int .i64 (el hs v * 2 ^ zs.length)]) (t := 2) (fr := (0, 0)) (World.alloc_heap_new wr _)) (by simp [Value.oneCell']) (by omega) (by have := HLN.out; unfold maxLen; omega) (by have := HLN.out; omega) (by simp; omega) (wr.heap.size + 1) (by simp) ?_; intro gg cp w3 hown3 hgr3 hat3 hlt3; have HX3 := Lib.hid ((hgr3.block k (by simp; omega) (fun e => HNE.out e.symm)).trans (heap_old_at HXX.out _)); obtain ⟨z0, z1, fz0, fz1⟩ := two_cells HX3.out; have HO3 := Lib.hid hown3; have HG3 := Lib.hid hgr3; have HL3 := Lib.hid hlt3; have HAT := Lib.hid hat3; clear hown3 hgr3 hat3 hlt3))
        all_goals
          have HN := Lib.hid (besI_step hvl HXX.out HOW.out HNE.out HBB.out hk HO3.out HG3.out HAT.out)
          go_wp2
          go_roundw
          case rel => exact ⟨v + 1, by omega, by go_num, HN⟩
          case measure => simp [intOf]; omega
      · have hvl : v = hs.length := by omega
        subst hvl
        have RB := Lib.hid ((hB.block (w.heap.size + 2) (by omega)).trans HK4.out)
        obtain ⟨r0, r1, g0, g1⟩ := two_cells RB.out
        have HO2 := Lib.hid hO
        have HDF := Lib.hid (D0.trans (hB.mono D0.size))
        clear hO HI2 a0 a1 hB hX
        go_wp2
        have hfin := two_set (a := .int .i64 (zs.length + hs.length)) (b := .slice ua ul uc) RB.out
        have hgr : wr.grownBy ((wr.setCell ⟨w.heap.size + 2, 0, none⟩ (.int .i64 (zs.length + hs.length))).setCell ⟨w.heap.size + 2, 1, none⟩ (.slice ua ul uc)) (some (w.heap.size + 2)) := grown_set (grown_set ⟨rfl, rfl, rfl, Nat.le_refl _, fun _ _ _ => rfl⟩ _ 0 _) _ 1 _
        refine bodyPost_ret (v := .agg #[.int .i64 (zs.length + hs.length), .slice ua ul uc]) (results_cell_row (p := 4) (ty := 24) rfl _ _ (w.heap.size + 2) 24 _ (0, 0) _ rfl hfin Try.underlying24 rfl (by exact info27)) rfl ⟨_, rfl, ?_, ?_⟩
        · have h := HO2.out
          rw [besK_all] at h
          exact (h.kept hgr (.inr (fun e => by have := h.ge _ e; omega))).base (by omega)
        · exact (HDF.out.setCell (p := ⟨w.heap.size + 2, 0, none⟩) (by simp) _).setCell (p := ⟨w.heap.size + 2, 1, none⟩) (by simp) _
end Go.Proofs.Ytonfcmngokmgpaa
