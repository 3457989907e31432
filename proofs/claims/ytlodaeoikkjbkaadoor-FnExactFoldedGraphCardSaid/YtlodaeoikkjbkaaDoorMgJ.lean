/-
  Several texts in one: Fd1 Fd2.
-/
import Derived.Test.YtlodaeoikkjbkaaDoorFd0
import Derived.Deep.DeepCutAuto
import Derived.BigQuiet
import Derived.Deep.QuietTactic
import Derived.Test.YtlodaeoikkjbkaaDoorMgB
namespace Go.Proofs.YtlodaeoikkjbkaaDoor
set_option maxRecDepth 100000
open Go.RowKit

theorem eg_fold : ∀ args (W : World), (callFunc 58 args).run Tryd.prog W = .ok (.enter 58 args) W := enters_of Tryd.func58 (by kernel_rfl) rfl
theorem andFold (x y : Nat) (hx : x < 2 ^ 62) (hy : y < 2 ^ 62) : bits .and .i64 (x : Int) (y : Int) = ((x &&& y : Nat) : Int) := and_i64 x y (by omega) (by omega)

set_option maxHeartbeats 3200000 in
theorem fold1_any (zs fz : List Int) (n b off cap gL cL k r j v x : Nat) (w : World) (hb : b < w.heap.size) (hc : Cells w b off zs) (hT : Tab w) (hg : isG zs.length zs = true) (hfl : fz.length = zs.length)
    (hk : w.heap[k]? = some (.cells #[.int .i64 n, .slice (some ⟨b, off, none⟩) zs.length cap] 28 (0, 0)))
    (hr : w.cell? ⟨r, 0, none⟩ = some (.slice (some ⟨gL, 0, none⟩) j cL)) (hL : ∀ i, i < j → w.cell? ⟨gL, i, none⟩ = some (.int .i64 (el (fbR fz) i))) (hrl : r < w.heap.size) (hgl : gL < w.heap.size) (hv : v < j) (hx : x < j) :
    Calls Tryd.prog 58 #[.int .i64 v, .int .i64 x, .pointer (some ⟨k, 0, none⟩), .pointer (some ⟨r, 0, none⟩)] w fun e w' => e = .returned (.bool (fdF zs fz v x)) ∧ Below w.heap.size w w' := by
  obtain ⟨g1, g2, -, -, -⟩ := isG_parts hg
  obtain ⟨-, -, g4⟩ := isG_sym2 hg
  have h62 : zs.length ≤ 62 := by omega
  have hp62 : 2 ^ zs.length ≤ 2 ^ 62 := Nat.pow_le_pow_right (by decide) h62
  obtain ⟨e1, l1⟩ := fbR_nat (fz := fz) v
  obtain ⟨e2, l2⟩ := fbR_nat (fz := fz) x
  rw [hfl] at l1 l2
  have cv := hL v hv
  have cx := hL x hx
  have hf : fdF zs fz v x = (arN zs (mem (el (fbR fz) v).toNat) &&& (el (fbR fz) x).toNat != 0) := rfl
  rw [hf]
  rw [e1] at cv
  rw [e2] at cx
  generalize (el (fbR fz) v).toNat = P at *
  generalize (el (fbR fz) x).toNat = Q at *
  have HAR : Hid (∀ W, Below w.heap.size w W → Calls Tryd.prog 59 #[.agg #[.int .i64 n, .slice (some ⟨b, off, none⟩) zs.length cap], .int .i64 (P : Nat)] W fun e w' => e = .returned (.int .i64 (arN zs (mem P))) ∧ Below W.heap.size W w') := fun W hW =>
    callsIn_wide.1 (around_in n b off cap zs P W (Nat.lt_of_lt_of_le hb hW.size) (hc.below hW hb) (hT.belowAll hW) h62 l1 (fun i hi => ⟨(isG_row_ok hg i hi).1, by have := g4 i hi; omega⟩))
  have hal : arN zs (mem P) < 2 ^ 62 := Nat.lt_of_lt_of_le (arN_lt zs zs.length (fun i hi => g4 i hi) _) hp62
  generalize arN zs (mem P) = A at *
  have hand := andFold A Q hal (by omega)
  have hv0 : (0 : Int) ≤ v := by omega
  have hx0 : (0 : Int) ≤ x := by omega
  have hvi : (v : Int) < j := by omega
  have hxi : (x : Int) < j := by omega
  obtain ⟨c0, c1, -, -⟩ := two_cells hk
  have hkl : k < w.heap.size := (Array.getElem?_eq_some_iff.1 hk).1
  have hne : ((A &&& Q : Nat) != 0) = (((A &&& Q : Nat) : Int) != 0) := by
    rw [Bool.eq_iff_iff, bne_iff_ne, bne_iff_ne]
    omega
  rw [hne]
  generalize A &&& Q = Z at *
  have HK := Lib.hid hk
  clear hg g4 hc hT hL hf e1 e2 l1 l2 hk hne hp62 hfl
  go_enter Tryd.func58, Tryd.ntmps58
  go_wp2_with fail
  have HD : Hid (Below w.heap.size w w.drew) := (Below.refl _ _).drew
  go_region_held3 (fun w' => (w'.cell? ⟨k, 0, none⟩ = some (.int .i64 n) ∧ w'.cell? ⟨k, 1, none⟩ = some (.slice (some ⟨b, off, none⟩) zs.length cap)) ∧ w'.cell? ⟨r, 0, none⟩ = some (.slice (some ⟨gL, 0, none⟩) j cL) ∧ w'.cell? ⟨gL, v, none⟩ = some (.int .i64 (P : Nat)) ∧ w'.cell? ⟨gL, x, none⟩ = some (.int .i64 (Q : Nat)))
    (go_keep)
    (first | (go_at_call 59; refine (HAR.out _ HD.out).mono ?_; rintro e w2 ⟨rfl, hb2⟩; have k0 := (hb2.cell (p := ⟨k, 0, none⟩) hkl).trans c0; have k1 := (hb2.cell (p := ⟨k, 1, none⟩) hkl).trans c1; have k2 := (hb2.cell (p := ⟨r, 0, none⟩) hrl).trans hr; have k3 := (hb2.cell (p := ⟨gL, v, none⟩) hgl).trans cv; have k4 := (hb2.cell (p := ⟨gL, x, none⟩) hgl).trans cx; have HB2 := Lib.hid (HD.out.trans (hb2.mono HD.out.size)); clear hb2))
  go_wp2
  go_ret
  exact ⟨rfl, HB2.out⟩

theorem cnC_cases (n : Int) (zs : List Int) : cnC n zs = 0 ∨ cnC n zs = 1 ∨ cnC n zs = 5 := by
  unfold cnC
  cases isG n zs with
  | false => exact .inr (.inl rfl)
  | true =>
    cases connB zs with
    | false => exact .inr (.inr rfl)
    | true => exact .inl rfl

set_option maxHeartbeats 1600000 in
theorem implFd_no (n : Int) (v : Value) (zs : List Int) (w : World) (h : Sl w v zs) (hl : zs.length ≤ 9223372036854775807) (hT : Tab w) (hno : apD n zs = false) :
    Calls Tryd.prog 32 #[.agg #[.int .i64 n, v]] w fun e w' => GRes w.heap.size 0 [] (FdC n zs) e w' ∧ Below w.heap.size w w' := by
  obtain ⟨W, hW⟩ : ∃ W, W = (w.alloc (.cells #[.int .i64 n, v] 28)).alloc (.cells #[.int .i64 0, .slice none 0 0] 28) := ⟨_, rfl⟩
  have D0 : Below w.heap.size w W := by rw [hW]; exact ((Below.refl _ _).alloc (Nat.le_refl _) _).alloc (by simp) _
  have RB0 : Hid (W.heap[w.heap.size + 1]? = some (.cells #[.int .i64 0, .slice none 0 0] 28 (0, 0))) := by show _ = _; rw [hW]; exact heap_new_at _ _ _ (by simp)
  have HG0 : Hid (W.heap[w.heap.size]? = some (.cells #[.int .i64 n, v] 28 (0, 0))) := by show _ = _; rw [hW]; exact heap_old_at (World.alloc_heap_new w _) _
  have hsz : w.heap.size + 2 ≤ W.heap.size := by rw [hW]; simp
  have hfi := fib_any n v zs W (h.below D0) hl (hT.belowAll D0)
  have hlen : (FbL9 n zs).length = 0 := by
    have := @FbL9_pos n zs
    rw [hno] at this
    simpa using this
  have HFC : Hid (FdC n zs = if cnC n zs = 0 then 5 else cnC n zs) := by show _ = _; unfold FdC; rw [hno]; rfl
  have hcs := cnC_cases n zs
  have HD0 := Lib.hid D0
  rw [HFC.out]
  obtain ⟨L, hL⟩ : ∃ L, L = FbL9 n zs := ⟨_, rfl⟩
  rw [← hL] at hfi hlen
  generalize cnC n zs = c at *
  obtain ⟨x0, x1, -, -⟩ := two_cells HG0.out
  clear h hT D0 hno hL HFC
  rcases hcs with rfl | rfl | rfl
  · rw [if_pos rfl]
    go_enter Tryd.func32, Tryd.ntmps32
    go_upto_region 1 with fail
    rw [← hW]
    clear hW
    go_wp2_with fail
    refine hfi.mono ?_
    rintro e w1 ⟨⟨u, rfl, hO⟩, hb1⟩
    obtain ⟨a, cp, rfl⟩ : ∃ a cp, u = .slice a 0 cp := by
      rcases hO.form with ⟨rfl, _⟩ | ⟨g, cap, rfl, _⟩
      · exact ⟨_, _, rfl⟩
      · rw [hlen]; exact ⟨_, _, rfl⟩
    have s1 := hb1.size
    obtain ⟨w2, hw2⟩ : ∃ w2, w2 = w1.alloc (.cells #[.slice a 0 cp] 22) := ⟨_, rfl⟩
    have hb2 : Below w1.heap.size w1 w2 := by rw [hw2]; exact (Below.refl _ _).alloc (Nat.le_refl _) _
    have XB2 : w2.heap[w1.heap.size]? = some (.cells #[.slice a 0 cp] 22 (0, 0)) := by rw [hw2]; exact World.alloc_heap_new w1 _
    have hcell : w2.cell? ⟨w1.heap.size, 0, none⟩ = some (.slice a 0 cp) := by rw [cell_of_row w2 _ 0 _ _ _ XB2]; rfl
    have RB2 := Lib.hid ((hb2.block (w.heap.size + 1) (by omega)).trans ((hb1.block (w.heap.size + 1) (by omega)).trans RB0.out))
    have HB1 := Lib.hid (HD0.out.trans ((hb1.trans (hb2.mono s1)).mono HD0.out.size))
    obtain ⟨r0, r1, g0, g1⟩ := two_cells RB2.out
    clear hb1 hO hfi x0 x1 RB0 HG0 hb2 XB2
    go_upto_region 2 with fail
    rw [← hw2]
    clear hw2
    go_wp2_with fail
    have hfin := two_set (a := .int .i64 0) (b := .slice none 0 0) RB2.out
    refine bodyPost_ret (v := .tuple #[.agg #[.int .i64 0, .slice none 0 0], .int .i64 5]) (results_cell2 (p := 2) (u := 3) (ty := 28) rfl _ _ (w.heap.size + 1) 28 _ (0, 0) _ rfl hfin Tryd.underlying28 rfl (by exact info27)) rfl ⟨⟨_, rfl, Own.nil _ _⟩, ?_⟩
    exact (HB1.out.setCell (p := ⟨w.heap.size + 1, 0, none⟩) (by simp) _).setCell (p := ⟨w.heap.size + 1, 1, none⟩) (by simp) _
  all_goals
    rw [if_neg (by decide)]
    go_enter Tryd.func32, Tryd.ntmps32
    go_upto_region 1 with fail
    rw [← hW]
    clear hW
    go_wp2_with fail
    refine hfi.mono ?_
    rintro e w1 ⟨⟨u, rfl, hO⟩, hb1⟩
    obtain ⟨a, cp, rfl⟩ : ∃ a cp, u = .slice a 0 cp := by
      rcases hO.form with ⟨rfl, _⟩ | ⟨g, cap, rfl, _⟩
      · exact ⟨_, _, rfl⟩
      · rw [hlen]; exact ⟨_, _, rfl⟩
    have s1 := hb1.size
    obtain ⟨w2, hw2⟩ : ∃ w2, w2 = w1.alloc (.cells #[.slice a 0 cp] 22) := ⟨_, rfl⟩
    have hb2 : Below w1.heap.size w1 w2 := by rw [hw2]; exact (Below.refl _ _).alloc (Nat.le_refl _) _
    have XB2 : w2.heap[w1.heap.size]? = some (.cells #[.slice a 0 cp] 22 (0, 0)) := by rw [hw2]; exact World.alloc_heap_new w1 _
    have hcell : w2.cell? ⟨w1.heap.size, 0, none⟩ = some (.slice a 0 cp) := by rw [cell_of_row w2 _ 0 _ _ _ XB2]; rfl
    have RB2 := Lib.hid ((hb2.block (w.heap.size + 1) (by omega)).trans ((hb1.block (w.heap.size + 1) (by omega)).trans RB0.out))
    have HB1 := Lib.hid (HD0.out.trans ((hb1.trans (hb2.mono s1)).mono HD0.out.size))
    obtain ⟨r0, r1, g0, g1⟩ := two_cells RB2.out
    clear hb1 hO hfi x0 x1 RB0 HG0 hb2 XB2
    go_upto_region 2 with fail
    rw [← hw2]
    clear hw2
    go_wp2_with fail
    have hfin := two_set (a := .int .i64 0) (b := .slice none 0 0) RB2.out
    refine bodyPost_ret (results_cell2 (p := 2) (u := 3) (ty := 28) rfl _ _ (w.heap.size + 1) 28 _ (0, 0) _ rfl hfin Tryd.underlying28 rfl (by exact info27)) rfl ⟨⟨_, rfl, Own.nil _ _⟩, ?_⟩
    exact (HB1.out.setCell (p := ⟨w.heap.size + 1, 0, none⟩) (by simp) _).setCell (p := ⟨w.heap.size + 1, 1, none⟩) (by simp) _

set_option maxHeartbeats 3200000 in
theorem implFd_yes (b off cap : Nat) (zs : List Int) (w : World) (hb : b < w.heap.size) (hc : Cells w b off zs) (hT : Tab w) (hy : apD zs.length zs = true) :
    Calls Tryd.prog 32 #[.agg #[.int .i64 zs.length, .slice (some ⟨b, off, none⟩) zs.length cap]] w fun e w' => GRes w.heap.size (fdM zs) (fdR zs) 0 e w' ∧ Below w.heap.size w w' := by
  obtain ⟨hg, hcn, hd, ha⟩ := apD_parts hy
  obtain ⟨g1, g2, -, -, -⟩ := isG_parts hg
  have h62 : zs.length ≤ 62 := by omega
  obtain ⟨W, hW⟩ : ∃ W, W = (w.alloc (.cells #[.int .i64 zs.length, .slice (some ⟨b, off, none⟩) zs.length cap] 28)).alloc (.cells #[.int .i64 0, .slice none 0 0] 28) := ⟨_, rfl⟩
  have D0 : Below w.heap.size w W := by rw [hW]; exact ((Below.refl _ _).alloc (Nat.le_refl _) _).alloc (by simp) _
  have RB0 : Hid (W.heap[w.heap.size + 1]? = some (.cells #[.int .i64 0, .slice none 0 0] 28 (0, 0))) := by show _ = _; rw [hW]; exact heap_new_at _ _ _ (by simp)
  have HG0 : Hid (W.heap[w.heap.size]? = some (.cells #[.int .i64 zs.length, .slice (some ⟨b, off, none⟩) zs.length cap] 28 (0, 0))) := by show _ = _; rw [hW]; exact heap_old_at (World.alloc_heap_new w _) _
  have hsz : w.heap.size + 2 ≤ W.heap.size := by rw [hW]; simp
  have hfi := fib_any zs.length (.slice (some ⟨b, off, none⟩) zs.length cap) zs W (.inr ⟨b, off, cap, rfl, Nat.lt_of_lt_of_le hb D0.size, hc.below D0 hb⟩) (by omega) (hT.belowAll D0)
  have hpos := @FbL9_pos zs.length zs
  rw [hy] at hpos
  have hpos' : 0 < (FbL9 zs.length zs).length := by simpa using hpos
  obtain ⟨fz, hfz⟩ : ∃ fz, fz = gaR zs (dmX zs) := ⟨_, rfl⟩
  have hfl : fz.length = zs.length := by rw [hfz]; exact gaR_length' _ _
  have e1 : FbL9 zs.length zs = fbR fz := by unfold FbL9; rw [hg, hcn, decide_eq_true (by omega), fbL_yes ha, hfz]; rfl
  have e2 : cnC zs.length zs = 0 := by unfold cnC; rw [hg, hcn]; rfl
  rw [e1, e2] at hfi
  rw [e1] at hpos'
  obtain ⟨m, hm⟩ : ∃ m, m = fdM zs := ⟨_, rfl⟩
  have hml : (fbR fz).length = m := by rw [hm, fbR_len, hfz]; rfl
  have hm62 : m ≤ 62 := by rw [hm]; exact fdM_le hg
  have hR : fdR zs = rowsF m (adjS (whereS (fdF zs fz) m)) := by unfold fdR; rw [hm, hfz]
  rw [hR, ← hm]
  have HWH : Hid (∀ (W2 : World) (gL cL r : Nat), Below W.heap.size W W2 → W2.cell? ⟨r, 0, none⟩ = some (.slice (some ⟨gL, 0, none⟩) m cL) → (∀ i, i < m → W2.cell? ⟨gL, i, none⟩ = some (.int .i64 (el (fbR fz) i))) → r < W2.heap.size → gL < W2.heap.size →
      Calls Tryd.prog 57 #[.int .i64 m, .func (.func 58) #[] #[.pointer (some ⟨w.heap.size, 0, none⟩), .pointer (some ⟨r, 0, none⟩)]] W2 fun e w' => GRet W2.heap.size m (rowsF m (adjS (whereS (fdF zs fz) m))) e w' ∧ Below W2.heap.size W2 w') := fun W2 gL cL r h1 h2 h3 h4 h5 =>
    where_any 58 _ _ (fdF zs fz) m W2 hm62 eg_fold (fun v x W3 hvx hx h => by
      have hD2 := D0.trans (h1.mono D0.size)
      have hD3 := hD2.trans (h.mono hD2.size)
      exact fold1_any zs fz zs.length b off cap gL cL w.heap.size r m v x W3 (Nat.lt_of_lt_of_le hb hD3.size) (hc.below hD3 hb) (hT.belowAll hD3) hg hfl
        ((h.block _ (by have := h1.size; omega)).trans ((h1.block _ (by omega)).trans HG0.out)) ((h.cell (p := ⟨r, 0, none⟩) h4).trans h2) (fun i hi => (h.cell (p := ⟨gL, i, none⟩) h5).trans (h3 i hi)) (Nat.lt_of_lt_of_le h4 h.size) (Nat.lt_of_lt_of_le h5 h.size) (by omega) hx)
  have HD0 := Lib.hid D0
  have HLEN : Hid ((rowsF m (adjS (whereS (fdF zs fz) m))).length = m) := rowsF_length _ _
  obtain ⟨L, hL⟩ : ∃ L, L = fbR fz := ⟨_, rfl⟩
  rw [← hL] at hfi hml hpos' HWH
  generalize rowsF m (adjS (whereS (fdF zs fz) m)) = RR at *
  obtain ⟨x0, x1, -, -⟩ := two_cells HG0.out
  have hmm := hmkf
  clear hc hT D0 hy hg hcn hd ha hpos hfz hfl e1 e2 hm hR hL
  go_enter Tryd.func32, Tryd.ntmps32
  go_upto_region 1 with fail
  rw [← hW]
  clear hW
  go_wp2_with fail
  refine hfi.mono ?_
  rintro e w1 ⟨⟨u, rfl, hO⟩, hb1⟩
  obtain ⟨gL, cL, rfl⟩ : ∃ gL cL, u = .slice (some ⟨gL, 0, none⟩) m cL := by
    rcases hO.form with ⟨_, h0⟩ | ⟨g, cap, e, _⟩
    · rw [h0] at hpos'; simp at hpos'
    · rw [hml] at e; exact ⟨g, cap, e⟩
  have s1 := hb1.size
  obtain ⟨w2, hw2⟩ : ∃ w2, w2 = w1.alloc (.cells #[.slice (some ⟨gL, 0, none⟩) m cL] 22) := ⟨_, rfl⟩
  have hb2 : Below w1.heap.size w1 w2 := by rw [hw2]; exact (Below.refl _ _).alloc (Nat.le_refl _) _
  have XB2 : w2.heap[w1.heap.size]? = some (.cells #[.slice (some ⟨gL, 0, none⟩) m cL] 22 (0, 0)) := by rw [hw2]; exact World.alloc_heap_new w1 _
  have hcell : w2.cell? ⟨w1.heap.size, 0, none⟩ = some (.slice (some ⟨gL, 0, none⟩) m cL) := by rw [cell_of_row w2 _ 0 _ _ _ XB2]; rfl
  have hgl : gL < w1.heap.size := hO.lt _ rfl
  have hcells : ∀ i, i < m → w2.cell? ⟨gL, i, none⟩ = some (.int .i64 (el L i)) := fun i hi => by
    have hO' := hO
    unfold Own at hO'
    rw [hml] at hO'
    exact (hb2.cell (p := ⟨gL, i, none⟩) hgl).trans ((World.ownsRow.cellAt hO' i (by omega)).trans (map_at _ i (by omega)))
  have s2 : w1.heap.size < w2.heap.size := (Array.getElem?_eq_some_iff.1 XB2).1
  have hk := HWH.out w2 gL cL w1.heap.size (hb1.trans (hb2.mono s1)) hcell hcells s2 (by omega)
  have RB2 := Lib.hid ((hb2.block (w.heap.size + 1) (by omega)).trans ((hb1.block (w.heap.size + 1) (by omega)).trans RB0.out))
  have HB2 := Lib.hid (HD0.out.trans ((hb1.trans (hb2.mono s1)).mono HD0.out.size))
  have hm0 : ¬ ((m : Int) == 0) = true := by
    rw [beq_iff_eq]; omega
  have hm0' : ((m : Int) == 0) = false := by simpa using hm0
  clear hO hb1 hfi x0 x1 RB0 HG0 HWH hm0 hml hb2 hcells
  go_upto_region 2 with fail
  rw [← hw2]
  clear hw2
  go_wp2_with fail
  refine hk.mono ?_
  rintro e w3 ⟨⟨g, rfl, hB3, hg3⟩, hb3⟩
  have RB3 := Lib.hid ((hb3.block (w.heap.size + 1) (by omega)).trans RB2.out)
  have HE3 := Lib.hid (HB2.out.trans (hb3.mono HB2.out.size))
  have HBK := Lib.hid hB3
  clear hB3 hb3 hk
  obtain ⟨r0, r1, q0, q1⟩ := two_cells RB3.out
  go_wp2_with fail
  have hfin := two_set (a := .int .i64 m) (b := .slice (some ⟨g, 0, none⟩) m m) RB3.out
  refine bodyPost_ret (v := .tuple #[.agg #[.int .i64 m, .slice (some ⟨g, 0, none⟩) m m], .int .i64 0]) (results_cell2 (p := 2) (u := 3) (ty := 28) rfl _ _ (w.heap.size + 1) 28 _ (0, 0) _ rfl hfin Tryd.underlying28 rfl (by exact info27)) rfl ⟨⟨_, rfl, ?_⟩, ?_⟩
  · have h := Own.of_blk ((HBK.out.other (a := ⟨w.heap.size + 1, 0, none⟩) (by simp; omega) (.int .i64 m)).other (a := ⟨w.heap.size + 1, 1, none⟩) (by simp; omega) (.slice (some ⟨g, 0, none⟩) m m)) (B := w.heap.size) (by omega) (by rw [HLEN.out]; unfold maxLen; omega)
    rw [HLEN.out] at h
    exact h
  · exact (HE3.out.setCell (p := ⟨w.heap.size + 1, 0, none⟩) (by simp) _).setCell (p := ⟨w.heap.size + 1, 1, none⟩) (by simp) _

theorem implFd_any (n : Int) (v : Value) (zs : List Int) (w : World) (h : Sl w v zs) (hl : zs.length ≤ 9223372036854775807) (hT : Tab w) :
    Calls Tryd.prog 32 #[.agg #[.int .i64 n, v]] w fun e w' => GRes w.heap.size (FdN n zs) (FdL n zs) (FdC n zs) e w' ∧ Below w.heap.size w w' := by
  cases hy : apD n zs with
  | false =>
    rw [show FdN n zs = 0 by unfold FdN; rw [hy]; rfl, show FdL n zs = [] by unfold FdL; rw [hy]; rfl]
    exact implFd_no n v zs w h hl hT hy
  | true =>
    rw [show FdN n zs = (fdM zs : Int) by unfold FdN; rw [hy]; rfl, show FdL n zs = fdR zs by unfold FdL; rw [hy]; rfl, show FdC n zs = 0 by unfold FdC; rw [hy]; rfl]
    obtain ⟨h1, _, h3, _⟩ := isG_parts (apD_parts hy).1
    obtain ⟨b, off, cap, rfl, hb, hc⟩ := sl_some h (by omega)
    obtain rfl : (zs.length : Int) = n := h3
    exact implFd_yes b off cap zs w hb hc hT hy
end Go.Proofs.YtlodaeoikkjbkaaDoor
namespace Go.Proofs.YtlodaeoikkjbkaaDoor
set_option maxRecDepth 100000
open Go.RowKit

/-- The first n values of a function. -/
def fnQ (g : Nat → Int) (n : Nat) : List Int := (List.range n).map g
theorem fnQ_length (g : Nat → Int) (n : Nat) : (fnQ g n).length = n := by simp [fnQ]
theorem fnQ_at (g : Nat → Int) {n i : Nat} (h : i < n) : el (fnQ g n) i = g i := by rw [el_lt (by rw [fnQ_length]; exact h)]; simp [fnQ]
theorem fnQ_congr {f g : Nat → Int} {n : Nat} (h : ∀ i, i < n → f i = g i) : fnQ f n = fnQ g n := List.map_congr_left fun i hi => h i (List.mem_range.1 hi)
theorem fnQ_set (g : Nat → Int) (n y : Nat) (v : Int) : (fnQ g n).set y v = fnQ (fun j => if j = y then v else g j) n := by
  refine ext_el (by rw [List.length_set, fnQ_length, fnQ_length]) fun i hi => ?_
  rw [List.length_set, fnQ_length] at hi
  rw [fnQ_at _ hi]
  by_cases e : i = y
  · rw [e, elSet_eq (by rw [fnQ_length]; omega), if_pos rfl]
  · rw [elSet_ne e, fnQ_at _ hi, if_neg e]
/-- The numbers below v, x at v, and nothing behind. -/
def stF (K : Nat → Nat) (v : Nat) (x : Int) (i : Nat) : Int := if i < v then (K i : Int) else if i = v then x else 0
def stQ (K : Nat → Nat) (n v : Nat) (x : Int) : List Int := fnQ (stF K v x) n
theorem stQ_length {K : Nat → Nat} {n v : Nat} {x : Int} : (stQ K n v x).length = n := fnQ_length _ _
theorem stQ_set {K : Nat → Nat} {n v : Nat} {x y : Int} : (stQ K n v x).set v y = stQ K n v y := by
  unfold stQ
  rw [fnQ_set]
  refine fnQ_congr fun i _ => ?_
  unfold stF
  by_cases e : i = v
  · subst e; rw [if_pos rfl, if_neg (by omega), if_pos rfl]
  · rw [if_neg e, if_neg e, if_neg e]
theorem stQ_next {K : Nat → Nat} {n v : Nat} : stQ K n v (K v) = stQ K n (v + 1) 0 := by
  refine fnQ_congr fun i _ => ?_
  unfold stF
  by_cases e : i = v
  · subst e; rw [if_neg (by omega), if_pos rfl, if_pos (by omega)]
  · by_cases e2 : i < v
    · rw [if_pos e2, if_pos (by omega)]
    · rw [if_neg e2, if_neg e, if_neg (by omega)]; split <;> rfl
theorem stQ_zero {K : Nat → Nat} {n : Nat} : List.replicate n (0 : Int) = stQ K n 0 0 := by
  refine (List.eq_replicate_iff.2 ⟨by rw [stQ_length], fun x hx => ?_⟩).symm
  unfold stQ fnQ at hx
  obtain ⟨i, _, rfl⟩ := List.mem_map.1 hx
  unfold stF
  rw [if_neg (by omega)]; split <;> rfl
theorem stQ_below {K : Nat → Nat} {n v i : Nat} {x : Int} (hi : i < v) (hn : i < n) : el (stQ K n v x) i = (K i : Int) := by
  unfold stQ
  rw [fnQ_at _ hn]; unfold stF; rw [if_pos hi]
theorem stQ_here {K : Nat → Nat} {n v : Nat} {x : Int} (hn : v < n) : el (stQ K n v x) v = x := by
  unfold stQ
  rw [fnQ_at _ hn]; unfold stF; rw [if_neg (by omega), if_pos rfl]

/-- The number at v behind k looks. -/
def ivF (zs : List Int) (d : Int) (x : Int) (v : Nat) : Nat → Int
  | 0 => -1
  | k + 1 => if el (dsL zs v) k = d then x else ivF zs d x v k
theorem ivF_yes {zs : List Int} {d x : Int} {v k : Nat} (h : el (dsL zs v) k = d) : ivF zs d x v (k + 1) = x := by unfold ivF; rw [if_pos h]
theorem ivF_no {zs : List Int} {d x : Int} {v k : Nat} (h : ¬ el (dsL zs v) k = d) : ivF zs d x v (k + 1) = ivF zs d x v k := by rw [ivF, if_neg h]
theorem ivF_none {zs : List Int} {d x : Int} {v : Nat} : ∀ k, (∀ i, i < k → ¬ el (dsL zs v) i = d) → ivF zs d x v k = -1
  | 0, _ => rfl
  | k + 1, h => by rw [ivF_no (h k (by omega)), ivF_none k fun i hi => h i (by omega)]
theorem ivF_some {zs : List Int} {d x : Int} {v i : Nat} (h : el (dsL zs v) i = d) : ∀ k, i < k → ivF zs d x v k = x
  | k + 1, hi => by
    by_cases e : el (dsL zs v) k = d
    · exact ivF_yes e
    · rw [ivF_no e]
      exact ivF_some h k (by by_cases e2 : i = k
                             · subst e2; exact absurd h e
                             · omega)
/-- At the diameter d: the first vertex of a part has no vertex below it at distance d, and what stands at distance d has the same number. -/
theorem ds_rch {zs : List Int} {d : Int} (hg : isG zs.length zs = true) (hd : 0 < d) {v k : Nat} (hv : v < zs.length) (hk : k < zs.length) (h : el (dsL zs v) k = d) : rch (gaR zs d) v k := by
  have hl := gaR_length' zs d
  have hvk : v ≠ k := fun e => by subst e; rw [ds_self hv] at h; omega
  exact rch_step (by omega) (rch_self (by omega)) ((gaT hg hv).2 ⟨hk, hvk, h⟩) (by omega)
theorem ds_num {zs : List Int} {d : Int} (hg : isG zs.length zs = true) (hd : 0 < d) {v k : Nat} (hv : v < zs.length) (hk : k < zs.length) (h : el (dsL zs v) k = d) : fbK (gaR zs d) v = fbK (gaR zs d) k :=
  fbK_same (ga_sym hg) (by rw [gaR_length']; exact hv) (by rw [gaR_length']; exact hk) (ds_rch hg hd hv hk h)
theorem lead_ds {zs : List Int} {d : Int} (hg : isG zs.length zs = true) (hd : 0 < d) (hp : anP zs d) {v : Nat} (hv : v < zs.length) : leadB (gaR zs d) v = true ↔ ∀ k, k < v → ¬ el (dsL zs v) k = d := by
  have hl := gaR_length' zs d
  rw [leadB_iff]
  constructor
  · intro h k hk e
    exact h k hk (rch_symm (ga_sym hg) (by omega) (ds_rch hg hd hv (by omega) e))
  · intro h u hu hr
    have := hp.clique hg (show u < zs.length by omega) v hv hr (by omega)
    obtain ⟨_, _, e⟩ := (gaT hg (show u < zs.length by omega)).1 this
    refine h u hu ?_
    rw [dsL_at (show u < zs.length by omega), dist_symm hg hv (by omega), ← dsL_at hv]
    exact e
/-- What the inner loop leaves. -/
theorem iv_end {zs : List Int} {d : Int} (hg : isG zs.length zs = true) (hd : 0 < d) (hp : anP zs d) {v : Nat} (hv : v < zs.length) :
    (leadB (gaR zs d) v = true ∧ ivF zs d (fbK (gaR zs d) v) v v = -1 ∧ fbK (gaR zs d) v = (prN (gaR zs d) v).length ∧ (prN (gaR zs d) (v + 1)).length = (prN (gaR zs d) v).length + 1) ∨
    (leadB (gaR zs d) v = false ∧ ivF zs d (fbK (gaR zs d) v) v v = (fbK (gaR zs d) v : Int) ∧ (prN (gaR zs d) (v + 1)).length = (prN (gaR zs d) v).length) := by
  cases hb : leadB (gaR zs d) v with
  | true =>
    refine .inl ⟨rfl, ivF_none v ((lead_ds hg hd hp hv).1 hb), fbK_lead (by rw [gaR_length']; exact hv) hb, ?_⟩
    rw [prN_yes hb, List.length_append]; rfl
  | false =>
    refine .inr ⟨rfl, ?_, by rw [prN_no hb]⟩
    obtain ⟨k, hk, e⟩ : ∃ k, k < v ∧ el (dsL zs v) k = d := Classical.byContradiction fun hn => by
      have := (lead_ds hg hd hp hv).2 fun k hk e => hn ⟨k, hk, e⟩
      rw [hb] at this; cases this
    exact ivF_some e v hk

/-- What stands behind the model's first line. -/
def RF (Wz : World) (zs : List Int) (s t u : Value) (wx : World) : Prop := ∃ gu cu gf B S : Nat, s = .slice (some ⟨gu, 0, none⟩) zs.length cu ∧ t = .slice (some ⟨gf, 0, none⟩) zs.length zs.length ∧ u = .int .i64 0 ∧ Hid (∀ W', (∀ k, B ≤ k → k < S → W'.heap[k]? = wx.heap[k]?) → RdD W' gu zs) ∧ Hid (Blk wx gf (List.replicate zs.length 0)) ∧ Below Wz.heap.size Wz wx ∧ Wz.heap.size ≤ gf ∧ (gf < B ∨ S ≤ gf) ∧ S ≤ wx.heap.size
theorem RF.mk {Wz w2 wx : World} {zs : List Int} {u : Value} {gf B : Nat} (h0 : 0 < zs.length) (hTS : TS w2 B u (dsLL zs zs.length)) (hk : ∀ k, B ≤ k → k < w2.heap.size → wx.heap[k]? = w2.heap[k]?) (hblk : Blk wx gf (List.replicate zs.length 0)) (hbel : Below Wz.heap.size Wz wx) (h1 : Wz.heap.size ≤ gf) (h2 : gf < B ∨ w2.heap.size ≤ gf) (h3 : w2.heap.size ≤ wx.heap.size) :
    RF Wz zs u (.slice (some ⟨gf, 0, none⟩) zs.length zs.length) (.int .i64 0) wx := by
  rcases hTS.form with ⟨_, e⟩ | ⟨gu, cu, e, _, _⟩
  · have := congrArg List.length e; rw [dsLL_length, List.length_nil] at this; omega
  · rw [dsLL_length] at e
    subst e
    exact ⟨gu, cu, gf, B, w2.heap.size, rfl, rfl, rfl, fun W' hW => hTS.rdD fun k hb hs => (hW k hb hs).trans (hk k hb hs), hblk, hbel, h1, h2, h3⟩
theorem RF.first {Wz w2 : World} {zs : List Int} {u : Value} (h0 : 0 < zs.length) (hTS : TS w2 (Wz.drew.alloc (.cells (intsA (List.replicate zs.length 0)) 2)).heap.size u (dsLL zs zs.length)) (hb2 : Below (Wz.drew.alloc (.cells (intsA (List.replicate zs.length 0)) 2)).heap.size (Wz.drew.alloc (.cells (intsA (List.replicate zs.length 0)) 2)) w2) :
    RF Wz zs u (.slice (some ⟨Wz.heap.size, 0, none⟩) zs.length zs.length) (.int .i64 0) w2 := by
  have e : (Wz.drew.alloc (.cells (intsA (List.replicate zs.length 0)) 2)).heap.size = Wz.heap.size + 1 := by rw [World.size_alloc]; rfl
  have hk : Blk w2 Wz.heap.size (List.replicate zs.length 0) := (Blk.new Wz.drew (List.replicate zs.length 0)).belowAll hb2
  have hE : Below Wz.heap.size Wz w2 := (((Below.refl Wz.heap.size Wz).drew).alloc (Nat.le_refl _) (.cells (intsA (List.replicate zs.length 0)) 2)).trans (hb2.mono (by omega))
  exact RF.mk h0 hTS (fun _ _ _ => rfl) hk hE (Nat.le_refl _) (.inl (by omega)) (Nat.le_refl _)
theorem RF.last {Wz w2 : World} {zs : List Int} {u : Value} (h0 : 0 < zs.length) (hTS : TS w2 Wz.drew.heap.size u (dsLL zs zs.length)) (hb2 : Below Wz.drew.heap.size Wz.drew w2) :
    RF Wz zs u (.slice (some ⟨w2.heap.size, 0, none⟩) zs.length zs.length) (.int .i64 0) (w2.alloc (.cells (intsA (List.replicate zs.length 0)) 2)) := by
  have s2 : Wz.heap.size ≤ w2.heap.size := hb2.size
  have hE : Below Wz.heap.size Wz w2 := ((Below.refl Wz.heap.size Wz).drew).trans hb2
  have ha := (Below.refl w2.heap.size w2).alloc (Nat.le_refl _) (.cells (intsA (List.replicate zs.length 0)) 2)
  exact RF.mk h0 hTS (fun k _ hk => ha.block k hk) (Blk.new w2 _) (hE.alloc s2 _) s2 (.inr (Nat.le_refl _)) ha.size
end Go.Proofs.YtlodaeoikkjbkaaDoor
