/-
  Odd graphs: impl.setsOf: the ascending tuples (slices.IndexFunc, slices.DeleteFunc with its closure).
-/
import Derived.Test.YtapnlheecplpgaaDoorOd3
import Derived.Lib.SliceRun
namespace Go.Proofs.YtapnlheecplpgaaDoor
set_option maxRecDepth 100000
open Go.RowKit

set_option maxHeartbeats 800000 in
/-- setsOf's closure. -/
theorem set1_any (n : Int) (k : Nat) (u : Value) (t : List Int) (w : World) (hu : Sl w u t) (h1 : 1 ≤ t.length) (hl : t.length ≤ 62) (hn : n ≤ 62) (hk : w.cell? ⟨k, 0, none⟩ = some (.int .i64 n)) :
    Calls Tryd.prog 21 #[u, .pointer (some ⟨k, 0, none⟩)] w fun e w' => e = .returned (.bool (!ascP n t)) ∧ w = w' := by
  rcases hu with ⟨_, _, _, h0⟩ | ⟨b, off, cap, rfl, hb, hc⟩
  · rw [h0] at h1; simp at h1
  · have HA := Lib.hid (asc_some n b off cap t w hc (by omega) hn)
    clear hc
    go_enter Tryd.func21, Tryd.ntmps21
    go_wp2_with fail
    refine HA.out.mono ?_
    rintro e w' ⟨rfl, rfl⟩
    go_wp2_with fail
    go_ret
    exact ⟨rfl, rfl⟩
theorem eg_set1 : ∀ args W, (callFunc 21 args).run Tryd.prog W = .ok (.enter 21 args) W := fun _ _ => by kernel_rfl

/-- What IndexFunc finds: no list to strike, or the first one. -/
def IxR (m : Int) (Ts : List (List Int)) (e : Ending) : Prop := ∃ r : Int, e = .returned (.int .i64 r) ∧
  ((r = -1 ∧ ∀ i, i < Ts.length → ascP m (elS Ts i) = true) ∨ ∃ i : Nat, i < Ts.length ∧ r = (i : Int) ∧ ascP m (elS Ts i) = false ∧ ∀ j, j < i → ascP m (elS Ts j) = true)

set_option maxHeartbeats 1600000 in
theorem ixf_any (g cap k : Nat) (m : Int) (Ts : List (List Int)) (w : World) (hR : Rows w g 0 Ts) (hel : ∀ i, i < Ts.length → 1 ≤ (elS Ts i).length ∧ (elS Ts i).length ≤ 62) (hn : Ts.length ≤ 4000) (hm : m ≤ 62)
    (hk : w.cell? ⟨k, 0, none⟩ = some (.int .i64 m)) :
    Calls Tryd.prog 26 #[.slice (some ⟨g, 0, none⟩) Ts.length cap, .func (.func 21) #[] #[.pointer (some ⟨k, 0, none⟩)]] w fun e w' => IxR m Ts e ∧ w = w' := by
  have HR := Lib.hid hR; have HE := Lib.hid hel
  have HK := Lib.hid hk
  have eg := eg_set1
  obtain ⟨n, HN⟩ : ∃ n, Hid (n = Ts.length) := ⟨_, rfl⟩
  rw [← HN.out] at hn
  rw [← HN.out]
  clear hR hel hk
  go_enter Tryd.func26, Tryd.ntmps26
  go_wp2_with fail
  go_loopw [8] (fun iv wr => ∃ j : Nat, j ≤ n ∧ iv = .int .i64 j ∧ Hid (∀ i, i < j → ascP m (elS Ts i) = true) ∧ w = wr) (fun iv _ => n - (intOf iv).toNat)
  case atStart => exact ⟨0, Nat.zero_le _, rfl, fun i h => by omega, rfl⟩
  case round =>
    obtain ⟨j, hj, rfl, HA, rfl⟩ := hrel
    by_cases hlt : (j : Int) < n
    · have hjn : j < n := by omega
      have hjt : j < Ts.length := by rw [← HN.out]; exact hjn
      obtain ⟨p, c, hc, hs⟩ := HR.out j hjt
      rw [Nat.zero_add] at hc
      obtain ⟨t, ht⟩ : ∃ t, t = elS Ts j := ⟨_, rfl⟩
      have he := HE.out j hjt
      rw [← ht] at hc hs he
      have HS := Lib.hid (set1_any m k _ t w hs he.1 he.2 hm HK.out)
      have hj0 : (0 : Int) ≤ j := by omega
      obtain ⟨l, HL⟩ : ∃ l, Hid (l = t.length) := ⟨_, rfl⟩
      rw [← HL.out] at hc HS
      obtain ⟨b, HB⟩ : ∃ b, Hid (b = ascP m t) := ⟨_, rfl⟩
      rw [← HB.out] at HS
      rw [ht] at HB
      clear hs he ht HL
      cases b
      · go_wp2_with fail
        refine HS.out.mono ?_
        rintro e w' ⟨rfl, rfl⟩
        clear HS
        go_wp2_with fail
        go_ret
        exact ⟨⟨_, rfl, .inr ⟨j, hjt, rfl, HB.out.symm, HA.out⟩⟩, rfl⟩
      · have HA1 : Hid (∀ i, i < j + 1 → ascP m (elS Ts i) = true) := fun i hi => by
          by_cases e : i = j
          · rw [e]; exact HB.out.symm
          · exact HA.out i (by omega)
        go_wp2_with fail
        refine HS.out.mono ?_
        rintro e w' ⟨rfl, rfl⟩
        clear HS
        go_wp2_with fail
        go_roundw
        case rel => exact ⟨j + 1, by omega, by go_num, HA1, trivial⟩
        case measure => simp [intOf]; omega
    · obtain rfl : j = n := by omega
      go_wp2_with fail
      go_ret
      exact ⟨⟨_, rfl, .inl ⟨rfl, fun i hi => HA.out i (by rw [HN.out]; exact hi)⟩⟩, rfl⟩

/-- The values kept of the first j. -/
def keepI (m : Int) (Ts : List (List Int)) (j : Nat) : List Nat := (List.range j).filter fun x => ascP m (elS Ts x)
theorem keepI_yes {m : Int} {Ts : List (List Int)} {j : Nat} (h : ascP m (elS Ts j) = true) : keepI m Ts (j + 1) = keepI m Ts j ++ [j] := by
  unfold keepI; rw [List.range_succ, List.filter_append]; simp [h]
theorem keepI_no {m : Int} {Ts : List (List Int)} {j : Nat} (h : ascP m (elS Ts j) = false) : keepI m Ts (j + 1) = keepI m Ts j := by
  unfold keepI; rw [List.range_succ, List.filter_append]; simp [h]
theorem keepI_le (m : Int) (Ts : List (List Int)) (j : Nat) : (keepI m Ts j).length ≤ j := Nat.le_trans (List.length_filter_le _ _) (by simp)
theorem keepI_all {m : Int} {Ts : List (List Int)} : ∀ j, (∀ i, i < j → ascP m (elS Ts i) = true) → keepI m Ts j = List.range j
  | 0, _ => rfl
  | j + 1, h => by rw [keepI_yes (h j (by omega)), keepI_all j (fun i hi => h i (by omega)), List.range_succ]
theorem keepI_lt {m : Int} {Ts : List (List Int)} {j x : Nat} (h : x ∈ keepI m Ts j) : x < j := by
  unfold keepI at h; exact List.mem_range.1 (List.mem_filter.1 h).1
theorem elS_all (Ts : List (List Int)) : (List.range Ts.length).map (elS Ts) = Ts := by
  apply List.ext_getElem (by simp)
  intro i h1 h2
  simp [elS, List.getD_eq_getElem?_getD, List.getElem?_eq_getElem h2]
theorem keepI_filter (m : Int) (Ts : List (List Int)) : (keepI m Ts Ts.length).map (elS Ts) = Ts.filter (ascP m) := by
  have h := List.filter_map (f := elS Ts) (p := ascP m) (l := List.range Ts.length)
  rw [elS_all] at h
  rw [h]
  rfl
/-- The row while DeleteFunc goes over it: the kept ones first, from j on as before. -/
def DI (w wr : World) (g cap : Nat) (m : Int) (Ts : List (List Int)) (cs : List Value) (j : Nat) : Prop :=
  ∃ cur : Array Value, wr.heap[g]? = some (.cells cur 22 (0, 0)) ∧ cur.size = cap ∧ cur.toList.take (keepI m Ts j).length = (keepI m Ts j).map (fun x => cs.getD x undef) ∧
    (∀ x, j ≤ x → x < Ts.length → cur[x]? = some (cs.getD x undef)) ∧ w.grownBy wr (some g)
theorem DI.cell {w wr : World} {g cap : Nat} {m : Int} {Ts : List (List Int)} {cs : List Value} {j x : Nat} (h : DI w wr g cap m Ts cs j) (hj : j ≤ x) (hx : x < Ts.length) : wr.cell? ⟨g, x, none⟩ = some (cs.getD x undef) := by
  obtain ⟨cur, h1, _, _, h4, _⟩ := h
  rw [cell_of_row wr g x _ _ _ h1]
  exact h4 x hj hx
theorem DI.any {w wr : World} {g cap : Nat} {m : Int} {Ts : List (List Int)} {cs : List Value} {j x : Nat} (h : DI w wr g cap m Ts cs j) (hx : x < cap) : ∃ v, wr.cell? ⟨g, x, none⟩ = some v := by
  obtain ⟨cur, h1, h2, _⟩ := h
  exact ⟨cur[x]'(by omega), by rw [cell_of_row wr g x _ _ _ h1]; simp [h2, hx]⟩
theorem DI.frozen {w wr : World} {g cap : Nat} {m : Int} {Ts : List (List Int)} {cs : List Value} {j : Nat} (h : DI w wr g cap m Ts cs j) (x : Nat) : wr.frozen? ⟨g, x, none⟩ = false := by
  obtain ⟨cur, h1, _⟩ := h
  exact frozen_of_row wr g x _ _ h1
theorem DI.skip {w wr : World} {g cap : Nat} {m : Int} {Ts : List (List Int)} {cs : List Value} {j : Nat} (h : DI w wr g cap m Ts cs j) (hp : ascP m (elS Ts j) = false) : DI w wr g cap m Ts cs (j + 1) := by
  obtain ⟨cur, h1, h2, h3, h4, h5⟩ := h
  exact ⟨cur, h1, h2, by rw [keepI_no hp]; exact h3, fun x a b => h4 x (by omega) b, h5⟩
theorem DI.keep {w wr : World} {g cap : Nat} {m : Int} {Ts : List (List Int)} {cs : List Value} {j : Nat} (h : DI w wr g cap m Ts cs j) (hp : ascP m (elS Ts j) = true) (hj : j < Ts.length) (hcap : Ts.length ≤ cap) : DI w (wr.setCell ⟨g, (keepI m Ts j).length, none⟩ (cs.getD j undef)) g cap m Ts cs (j + 1) := by
  obtain ⟨cur, h1, h2, h3, h4, h5⟩ := h
  have hle := keepI_le m Ts j
  refine ⟨cur.setIfInBounds (keepI m Ts j).length (cs.getD j undef), heap_setCell_same wr g _ _ _ _ h1, by simp [h2], ?_, fun x a b => ?_, grown_set h5 _ _ _⟩
  · rw [keepI_yes hp, List.length_append, List.length_singleton, List.map_append, ← h3, Array.toList_setIfInBounds, List.take_succ_eq_append_getElem (by simp [h2]; omega), List.take_set_of_le (Nat.le_refl _)]
    simp
  · rw [Array.getElem?_setIfInBounds, if_neg (by omega)]
    exact h4 x (by omega) b
theorem grown_cells {w : World} {g : Nat} : ∀ (vs : List Value) (o : Nat) (wr : World), w.grownBy wr (some g) → w.grownBy (wr.setCells g o vs) (some g)
  | [], _, _, h => h
  | v :: r, o, wr, h => by rw [World.setCells]; exact grown_cells r (o + 1) _ (grown_set h g o v)
theorem Sl.set {w wr : World} {g B : Nat} {v : Value} {zs : List Int} (h : Own w B v zs) (hne : v.ownBlock = none ∨ v.ownBlock ≠ some g) (hg : w.grownBy wr (some g)) : Sl wr v zs := (h.kept hg hne).sl

theorem DI.rows {w wr w' : World} {g cap : Nat} {m : Int} {Ts Fs : List (List Int)} {cs : List Value} (h : DI w wr g cap m Ts cs Ts.length) (hF : (keepI m Ts Ts.length).map (elS Ts) = Fs)
    (hcell : ∀ a, a < (keepI m Ts Ts.length).length → w'.cell? ⟨g, a, none⟩ = wr.cell? ⟨g, a, none⟩)
    (hS : ∀ j, j < Ts.length → ∃ p c, cs.getD j undef = .slice p (elS Ts j).length c ∧ Sl w' (.slice p (elS Ts j).length c) (elS Ts j)) : Rows w' g 0 Fs := by
  intro a ha
  obtain ⟨cur, h1, h2, h3, h4, h5⟩ := h
  subst hF
  rw [List.length_map] at ha
  obtain ⟨x, hx⟩ : ∃ x, x = (keepI m Ts Ts.length)[a] := ⟨_, rfl⟩
  have hxl : x < Ts.length := keepI_lt (m := m) (by rw [hx]; exact List.getElem_mem _)
  have he : elS ((keepI m Ts Ts.length).map (elS Ts)) a = elS Ts x := by
    rw [hx]
    conv => lhs; unfold elS
    rw [List.getD_eq_getElem?_getD, List.getElem?_map, List.getElem?_eq_getElem ha]
    rfl
  obtain ⟨p, c, e1, e2⟩ := hS x hxl
  rw [he]
  refine ⟨p, c, ?_, e2⟩
  rw [Nat.zero_add, hcell a ha, cell_of_row wr g a _ _ _ h1, ← e1]
  have := congrArg (fun l => l[a]?) h3
  simp only [List.getElem?_take, if_pos ha, List.getElem?_map, List.getElem?_eq_getElem ha, Option.map_some] at this
  rw [hx]
  simpa using this

/-- What DeleteFunc leaves. -/
def DfR (w : World) (g cap : Nat) (Fs : List (List Int)) (e : Ending) (w' : World) : Prop := e = .returned (.slice (some ⟨g, 0, none⟩) Fs.length cap) ∧ Rows w' g 0 Fs ∧ w.grownBy w' (some g)

set_option maxHeartbeats 3200000 in
theorem delf_any (g cap k B : Nat) (m : Int) (Ts : List (List Int)) (cs : List Value) (w : World) (hT : TSc w B (.slice (some ⟨g, 0, none⟩) Ts.length cap) Ts cs) (hel : ∀ i, i < Ts.length → 1 ≤ (elS Ts i).length ∧ (elS Ts i).length ≤ 62) (hn : Ts.length ≤ 4000) (hm : m ≤ 62)
    (hk : w.cell? ⟨k, 0, none⟩ = some (.int .i64 m)) (hkB : k < B) :
    Calls Tryd.prog 19 #[.slice (some ⟨g, 0, none⟩) Ts.length cap, .func (.func 21) #[] #[.pointer (some ⟨k, 0, none⟩)]] w fun e w' => DfR w g cap (Ts.filter (ascP m)) e w' := by
  have hR : Rows w g 0 Ts := TS.rows ⟨cs, hT⟩
  have HIX := Lib.hid (ixf_any g cap k m Ts w hR hel hn hm hk)
  obtain ⟨hT1, hT2, hT3⟩ := hT
  obtain ⟨cur, hBg, hheap, hnc, hcs, htk⟩ : ∃ cur : Array Value, B ≤ g ∧ w.heap[g]? = some (.cells cur 22 (0, 0)) ∧ Ts.length ≤ cap ∧ cur.size = cap ∧ cur.toList.take Ts.length = cs := by
    rcases hT1.2 with ⟨e, _⟩ | ⟨g', cap', cur, e, h1, h2, h3, _, h5, h6⟩
    · cases e
    · cases e
      exact ⟨cur, h1, h2, h3, by simpa using h5, by simpa using h6⟩
  have hmx : cap ≤ maxLen := by
    rcases hT1.2 with ⟨e, _⟩ | ⟨g', cap', cur, e, h1, h2, h3, h4, h5, h6⟩
    · cases e
    · cases e
      exact h4
  have HS : Hid (∀ (j : Nat) (wr : World), j < Ts.length → w.grownBy wr (some g) → ∃ p c, cs.getD j undef = .slice p (elS Ts j).length c ∧ Sl wr (.slice p (elS Ts j).length c) (elS Ts j)) := fun j wr hj hg => by
    obtain ⟨u, h1, h2, h3, _⟩ := hT3 j hj
    have hs : Sl wr u (elS Ts j) := Sl.set h2 h3 hg
    have hf := slForm hs
    refine ⟨slPtr u, slCap u, by rw [List.getD_eq_getElem?_getD, h1, Option.getD_some]; exact hf, by rw [← hf]; exact hs⟩
  have hst : ∀ i, i < Ts.length → (∀ x, x < i → ascP m (elS Ts x) = true) → DI w w g cap m Ts cs i := fun i hi h => by
    refine ⟨cur, hheap, hcs, ?_, fun x _ hx => ?_, ⟨rfl, rfl, rfl, Nat.le_refl _, fun _ _ _ => rfl⟩⟩
    · rw [keepI_all i h, List.length_range, ← htk]
      apply List.ext_getElem
      · simp; omega
      · intro a h1 h2
        have h1' : a < i := by simp at h1; omega
        have : a < cur.toList.length := by simp; omega
        simp [List.getD_eq_getElem?_getD, List.getElem?_take, show a < Ts.length by omega, show a < cur.size by omega]
    · rw [← htk, List.getD_eq_getElem?_getD, List.getElem?_take, if_pos hx]
      simp [show x < cur.size by omega]
  have HST := Lib.hid hst
  have HEL := Lib.hid hel
  have HK : Hid (∀ wr : World, w.grownBy wr (some g) → wr.cell? ⟨k, 0, none⟩ = some (.int .i64 m)) := fun wr hg => by
    have hlt : k < w.heap.size := by
      rcases Nat.lt_or_ge k w.heap.size with h | h
      · exact h
      · simp [World.cell?, Array.getElem?_eq_none h] at hk
    have := hg.block k hlt (by simp; omega)
    rw [← hk]
    simp only [World.cell?, this]
  have HR := Lib.hid hR
  have HZ : Hid (∀ w, (zeroValue 22).run Tryd.prog w = .ok (.slice none 0 0) w) := fun w => by go_simp
  have eg := eg_set1
  obtain ⟨n, HN⟩ : ∃ n, Hid (n = Ts.length) := ⟨_, rfl⟩
  have HF := Lib.hid (keepI_filter m Ts)
  obtain ⟨Fs, hFs⟩ : ∃ Fs, Fs = Ts.filter (ascP m) := ⟨_, rfl⟩
  rw [← hFs] at HF
  rw [← HN.out] at hn hnc
  rw [← hFs]
  rw [← HN.out] at HIX
  rw [← HN.out]
  have HFS := Lib.hid hFs
  clear hR hel hk hT1 hT2 hT3 hheap hcs htk hst hFs hkB
  go_enter Tryd.func19, Tryd.ntmps19
  go_wp2_with fail
  refine HIX.out.mono ?_
  rintro e w' ⟨⟨r, rfl, hr⟩, rfl⟩
  clear HIX
  rcases hr with ⟨rfl, hall⟩ | ⟨i0, hi0, rfl, hno, hyes⟩
  · have hFT : Fs = Ts := by
      rw [← HF.out, keepI_all _ hall, elS_all]
    have HFT := Lib.hid hFT
    clear hall hFT
    go_wp2_with fail
    go_ret
    refine ⟨?_, ?_, ⟨rfl, rfl, rfl, Nat.le_refl _, fun _ _ _ => rfl⟩⟩
    · rw [HFT.out, HN.out]; rfl
    · rw [HFT.out]; exact HR.out
  · have hne : ((i0 : Int) == -1) = false := beq_eq_false_iff_ne.2 (by omega)
    have hne' : ¬ (i0 : Int) = -1 := by omega
    have hst := HST.out i0 hi0 hyes
    have HD0 := Lib.hid (hst.skip hno)
    have hk0 : (keepI m Ts (i0 + 1)).length = i0 := by rw [keepI_no hno, keepI_all _ hyes, List.length_range]
    have HK0 := Lib.hid hk0
    have hi0n : i0 < n := by rw [HN.out]; exact hi0
    clear hst hno hyes hi0 HST hk0
    go_wp2_with fail
    go_loopw [5, 6] (fun iv jv wr => ∃ i j : Nat, j ≤ n ∧ i < j ∧ iv = .int .i64 i ∧ jv = .int .i64 j ∧ Hid (i = (keepI m Ts j).length) ∧ Hid (DI w wr g cap m Ts cs j)) (fun _ jv _ => n - (intOf jv).toNat)
    case atStart => exact ⟨i0, i0 + 1, by omega, by omega, rfl, by go_num, HK0.out.symm, HD0⟩
    case round =>
      clear HD0 HK0 hne hne'
      obtain ⟨i, j, hj, hij, rfl, rfl, HI, HD⟩ := hrel
      have hi0' : (0 : Int) ≤ i := by omega
      have hj0' : (0 : Int) ≤ j := by omega
      by_cases hlt : (j : Int) < n
      · have hjn : j < n := by omega
        have hjt : j < Ts.length := by rw [← HN.out]; exact hjn
        have hc := HD.out.cell (Nat.le_refl j) hjt
        have hgr : w.grownBy wr (some g) := by obtain ⟨_, _, _, _, _, h⟩ := HD.out; exact h
        obtain ⟨p, c, hu, hs⟩ := HS.out j wr hjt hgr
        have he := HEL.out j hjt
        rw [hu] at hc
        obtain ⟨t, ht⟩ : ∃ t, t = elS Ts j := ⟨_, rfl⟩
        rw [← ht] at hc hs he
        have HU := Lib.hid hu
        have HC := Lib.hid (set1_any m k _ t wr hs he.1 he.2 hm (HK.out wr hgr))
        obtain ⟨l, HL⟩ : ∃ l, Hid (l = t.length) := ⟨_, rfl⟩
        rw [← HL.out] at hc HC
        obtain ⟨b, HB⟩ : ∃ b, Hid (b = ascP m t) := ⟨_, rfl⟩
        rw [← HB.out] at HC
        rw [ht] at HB HL
        clear hs he ht hu hgr
        cases b
        · have HD1 := Lib.hid (HD.out.skip HB.out.symm)
          have HI1 : Hid (i = (keepI m Ts (j + 1)).length) := by show _ = _; rw [keepI_no HB.out.symm]; exact HI.out
          clear HD
          go_wp2_with fail
          refine HC.out.mono ?_
          rintro e w' ⟨rfl, rfl⟩
          clear HC
          go_wp2_with fail
          go_roundw
          case rel => exact ⟨i, j + 1, by omega, by omega, rfl, by go_num, HI1, HD1⟩
          case measure => simp [intOf]; omega
        · have hkp := HD.out.keep HB.out.symm hjt (by rw [← HN.out]; exact hnc)
          rw [← HI.out, HU.out, ← HL.out] at hkp
          have HD1 := Lib.hid hkp
          have HI1 : Hid (i + 1 = (keepI m Ts (j + 1)).length) := by show _ = _; rw [keepI_yes HB.out.symm, List.length_append, ← HI.out]; rfl
          have hfz := HD.out.frozen i
          obtain ⟨vo, hvo⟩ := HD.out.any (x := i) (by omega)
          have hij1 : (i : Int) < n := by omega
          clear HD hkp
          go_wp2_with fail
          refine HC.out.mono ?_
          rintro e w' ⟨rfl, rfl⟩
          clear HC
          go_wp2_with fail
          go_roundw
          case rel => exact ⟨i + 1, j + 1, by omega, by omega, by go_num, by go_num, HI1, HD1⟩
          case measure => simp [intOf]; omega
      · obtain rfl : j = n := by omega
        have hin : i < j := hij
        have HCL : Hid (∀ ty, (Builtin.clear_ #[34] ty #[.slice (some ⟨g, i, none⟩) (j - i) (cap - i)]).run Tryd.prog wr = .ok (.tuple #[]) (wr.setCells g i (List.replicate (j - i) (.slice none 0 0)))) :=
          fun ty => Lib.run_clear_slice wr _ _ ty _ Tryd.underlying34 HZ.out rfl rfl g i _ _ (by omega)
            (fun x hx => by obtain ⟨v, hv⟩ := HD.out.any (x := i + x) (by omega); rw [hv]; rfl) (fun x hx => HD.out.frozen (i + x))
        have hcl := HCL.out
        go_wp2_with fail
        go_ret
        clear hcl HCL
        have hI := HI.out
        have hD := HD.out
        have hN := HN.out
        have hF := HF.out
        have hS := HS.out
        subst hN
        obtain ⟨wf, hwf⟩ : ∃ wf, wf = wr.setCells g i (List.replicate (Ts.length - i) (.slice none 0 0)) := ⟨_, rfl⟩
        have hgr : w.grownBy wf (some g) := by
          obtain ⟨_, _, _, _, _, h⟩ := hD
          rw [hwf]
          exact grown_cells _ _ _ h
        rw [← hwf]
        refine ⟨?_, hD.rows hF (fun a ha => ?_) (fun j hj => hS j wf hj hgr), hgr⟩
        · rw [← hF, List.length_map, ← hI]; rfl
        · rw [hwf]
          exact World.cell?_setCells_out g _ i wr ⟨g, a, none⟩ (fun _ _ => .inl (by rw [hI]; exact ha))

/-- What setsOf leaves. -/
def SoR (B : Nat) (Fs : List (List Int)) (e : Ending) (w' : World) : Prop := ∃ g cap, e = .returned (.slice (some ⟨g, 0, none⟩) Fs.length cap) ∧ Rows w' g 0 Fs ∧ B ≤ g ∧ g < w'.heap.size ∧ Fs.length ≤ cap

set_option maxHeartbeats 1600000 in
theorem setsOf_any (k m : Nat) (M : Int) (w : World) (hk0 : 1 ≤ k) (hk : k ≤ 4) (hm0 : 1 ≤ m) (hm : m ≤ 7) (hM : M = (m : Int)) (hT : Tab w) :
    Calls Tryd.prog 13 #[.int .i64 k, .int .i64 M] w fun e w' => SoR w.heap.size ((tups m k).filter (ascP m)) e w' ∧ Below w.heap.size w w' := by
  subst hM
  obtain ⟨W, hW⟩ : ∃ W, W = w.alloc (.cells #[.int .i64 m] 2) := ⟨_, rfl⟩
  have D0 : Below w.heap.size w W := by rw [hW]; exact (Below.refl _ _).alloc (Nat.le_refl _) _
  have s0 : W.heap.size = w.heap.size + 1 := by rw [hW]; simp
  have BM : Hid (Bx W w.heap.size 2 (.int .i64 m)) := by show Bx _ _ _ _; rw [hW]; exact World.alloc_heap_new w _
  have HTU := Lib.hid (tuplesL_any k m W hk hm0 hm (hT.belowAll D0))
  have hpos : 0 < (tups m k).length := by rw [tups_length]; exact Nat.pow_pos hm0
  have hbd := tups_bd m k hm hk
  have HEL : Hid (∀ i, i < (tups m k).length → 1 ≤ (elS (tups m k) i).length ∧ (elS (tups m k) i).length ≤ 62) := fun i hi => by rw [tups_el m k i hi]; omega
  obtain ⟨T, hTT⟩ : ∃ T, T = tups m k := ⟨_, rfl⟩
  rw [← hTT] at HTU hpos hbd HEL
  rw [← hTT]
  have cm := BM.out.cell
  clear hTT hT
  have s1 : w.heap.size < W.heap.size := by omega
  go_enter Tryd.func13, Tryd.ntmps13
  go_wp2_with fail
  rw [← hW]
  clear hW s0
  go_wp2_with fail
  refine HTU.out.mono ?_
  rintro e w1 ⟨⟨v, rfl, ⟨cs, hTL⟩⟩, hb1⟩
  clear HTU
  obtain ⟨g, cap, rfl, hg1, hg2, hcap⟩ : ∃ g cap, v = .slice (some ⟨g, 0, none⟩) T.length cap ∧ W.heap.size ≤ g ∧ g < w1.heap.size ∧ T.length ≤ cap := by
    rcases hTL.1.1.2 with ⟨_, h0⟩ | ⟨g, cap, cur, e, h1, h2, h3, h4, h5, h6⟩
    · omega
    · exact ⟨g, cap, e, h1, (Array.getElem?_eq_some_iff.1 h2).1, h3⟩
  have HDF := Lib.hid (delf_any g cap w.heap.size W.heap.size (m : Int) T cs w1 hTL.1 HEL.out (by omega) (by omega) (Bx.cell (W := w1) (t := 2) ((hb1.block w.heap.size s1).trans BM.out)) s1)
  have E1 := D0.trans (hb1.mono (by omega))
  clear hTL cm
  go_wp2_with fail
  refine HDF.out.mono ?_
  rintro e w2 ⟨rfl, hR, hg⟩
  clear HDF
  go_wp2_with fail
  go_ret
  exact ⟨⟨g, cap, rfl, hR, by omega, Nat.lt_of_lt_of_le hg2 hg.size, Nat.le_trans (List.length_filter_le _ _) hcap⟩, E1.grown hg (by omega) (fun j e => by cases e; omega)⟩
end Go.Proofs.YtapnlheecplpgaaDoor
