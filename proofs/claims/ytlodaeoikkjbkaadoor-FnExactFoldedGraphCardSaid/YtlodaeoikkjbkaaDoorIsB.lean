/-
  impl.IsGraph: its answer is isG.
-/
import Derived.Test.YtlodaeoikkjbkaaDoorRowArr
import Derived.Test.YtlodaeoikkjbkaaDoorIsA
namespace Go.Proofs.YtlodaeoikkjbkaaDoor
set_option maxRecDepth 100000
open Go.RowKit Go.Shelf

theorem tcol_bit (f : Nat → Nat) (j : Nat) : ∀ (v k : Nat), (tcol f v j).testBit k = (decide (k < v) && (f k).testBit j)
  | 0, k => by simp [tcol]
  | v + 1, k => by
    have ih := tcol_bit f j v k
    rw [tcol]
    by_cases hb : (f v).testBit j = true
    · rw [if_pos hb, Nat.testBit_or, ih, Nat.testBit_two_pow]
      by_cases hk : v = k
      · subst hk; simp [hb]
      · have : (k < v + 1) ↔ k < v := by omega
        simp [hk, this]
    · rw [if_neg hb, ih]
      by_cases hk : v = k
      · subst hk; simp [hb]
      · have : (k < v + 1) ↔ k < v := by omega
        simp [this]

theorem eq_tcol (f : Nat → Nat) (hf : ∀ i, i < 62 → f i < 4611686018427387904) (i : Nat) (hi : i < 62) : f i = tcol f 62 i ↔ ∀ k, k < 62 → (f i).testBit k = (f k).testBit i := by
  constructor
  · intro h k hk
    have : (f i).testBit k = (tcol f 62 i).testBit k := by rw [← h]
    rw [this, tcol_bit]; simp [hk]
  · intro h
    apply Nat.eq_of_testBit_eq
    intro k
    rw [tcol_bit]
    by_cases hk : k < 62
    · rw [h k hk]; simp [hk]
    · have h1 : f i < 2 ^ k := Nat.lt_of_lt_of_le (hf i hi) (show 2 ^ 62 ≤ 2 ^ k from Nat.pow_le_pow_right (by decide) (by omega))
      rw [Nat.testBit_lt_two_pow h1]; simp [hk]

/-- The rows as natural numbers. -/
def nat (zs : List Int) (i : Nat) : Nat := (el zs i).toNat

theorem rows_nat {n : Int} {zs : List Int} (hr : rowsOk n zs zs.length = true) : (∀ i, 0 ≤ el zs i) ∧ ∀ i, nat zs i < 2 ^ n.toNat := by
  have h0 : ∀ i, 0 ≤ el zs i ∧ nat zs i < 2 ^ n.toNat := fun i => by
    by_cases hi : i < zs.length
    · have a := rowOk_ge (rowsOk_at hr hi)
      have b := rowOk_le (rowsOk_at hr hi)
      refine ⟨a, ?_⟩
      unfold nat
      have e : ((2 : Int) ^ n.toNat) = ((2 ^ n.toNat : Nat) : Int) := by simp
      rw [e] at b
      have := Nat.two_pow_pos n.toNat
      omega
    · rw [nat, el_ge (by omega)]
      exact ⟨by omega, Nat.two_pow_pos _⟩
  exact ⟨fun i => (h0 i).1, fun i => (h0 i).2⟩

theorem sym_cols {n : Int} {zs : List Int} (h62 : n ≤ 62) (h1 : 1 ≤ n) (hl : (zs.length : Int) = n) (hr : rowsOk n zs zs.length = true) :
    ((List.range 62).all fun i => ((nat zs i : Nat) : Int) == ((tcol (nat zs) 62 i : Nat) : Int)) = symTo zs zs.length := by
  obtain ⟨hge, hlt⟩ := rows_nat hr
  have hp : 2 ^ n.toNat ≤ 4611686018427387904 := Nat.pow_le_pow_right (n := 2) (by decide) (show n.toNat ≤ 62 by omega)
  have hf : ∀ i, i < 62 → nat zs i < 4611686018427387904 := fun i _ => Nat.lt_of_lt_of_le (hlt i) hp
  have hout : ∀ i k, zs.length ≤ k → (nat zs i).testBit k = false := fun i k hk =>
    Nat.testBit_lt_two_pow (Nat.lt_of_lt_of_le (hlt i) (Nat.pow_le_pow_right (by decide) (by omega)))
  have hrow : ∀ i k, zs.length ≤ i → (nat zs i).testBit k = false := fun i k hi => by rw [nat, el_ge hi]; simp
  rw [Bool.eq_iff_iff]
  constructor
  · intro h
    have h2 : ∀ i, i < 62 → ∀ k, k < 62 → (nat zs i).testBit k = (nat zs k).testBit i := fun i hi => (eq_tcol _ hf i hi).1 (by
      have := List.all_eq_true.1 h i (List.mem_range.2 hi)
      have := eq_of_beq this
      omega)
    refine List.all_eq_true.2 fun v hv => List.all_eq_true.2 fun u hu => ?_
    rw [List.mem_range] at hv hu
    have := h2 v (by omega) u (by omega)
    simp only [bt]
    simp only [nat] at this
    rw [this]; simp
  · intro h
    have hs : ∀ v, v < zs.length → ∀ u, u < v → (nat zs v).testBit u = (nat zs u).testBit v := fun v hv u hu => by
      have := List.all_eq_true.1 (List.all_eq_true.1 h v (List.mem_range.2 hv)) u (List.mem_range.2 hu)
      simpa [bt, nat] using this
    refine List.all_eq_true.2 fun i hi => ?_
    rw [List.mem_range] at hi
    have := (eq_tcol _ hf i hi).2 fun k _ => by
      by_cases hil : i < zs.length
      · by_cases hkl : k < zs.length
        · rcases Nat.lt_trichotomy i k with hik | hik | hik
          · exact (hs k hkl i hik).symm
          · subst hik; rfl
          · exact hs i hil k hik
        · rw [hout i k (by omega), hrow k i (by omega)]
      · rw [hrow i k (by omega), hout k i (by omega)]
    rw [this.symm]; simp

theorem rowsA_nat {zs : List Int} (h : ∀ i, 0 ≤ el zs i) : rowsA (el zs) = rowsA (fun i => ((nat zs i : Nat) : Int)) := by
  have : el zs = fun i => ((nat zs i : Nat) : Int) := funext fun i => by have := h i; unfold nat; omega
  rw [← this]
theorem isG_last {n : Int} {zs : List Int} (h1 : 1 ≤ n) (h2 : n ≤ 62) (h3 : (zs.length : Int) = n) (h4 : rowsOk n zs zs.length = true) : isG n zs = symTo zs zs.length := by
  unfold isG; simp [h1, h2, h3, h4]

theorem load59 (w : World) (H : Nat) (f : Nat → Int) (h : ArrB w H f) : (loadVar 75 ⟨H, 0, none⟩).run Tryd.prog w = .ok (.agg (rowsA f)) w :=
  run_loadVar_row w H 75 75 (rowsA f) (0, 0) _ h Tryd.underlying75 rfl (by rw [rowsA_size]; exact info59)
theorem eqGuard59 : Tryd.prog.eqGuardType Tryd.prog.depth 75 = false := by kernel_rfl

set_option maxRecDepth 100000 in
set_option maxHeartbeats 1600000 in
theorem implIs_some (n : Int) (b off cap : Nat) (zs : List Int) (w : World) (hb : b < w.heap.size) (hc : Cells w b off zs) (hl : zs.length ≤ 9223372036854775807) (hT : Tab w) :
    Calls Tryd.prog 41 #[.agg #[.int .i64 n, .slice (some ⟨b, off, none⟩) zs.length cap]] w fun e w' => e = .returned (.bool (isG n zs)) ∧ Below w.heap.size w w' := by
  by_cases h1 : 1 ≤ n ∧ n ≤ 62
  · have e1 : (!(decide (1 ≤ n) && decide (n ≤ 62))) = false := by simp [h1]
    by_cases h2 : (zs.length : Int) = n
    · have e2 : ((zs.length : Int) != n) = false := by simpa using h2
      have hc' : Hid (Cells w b off zs) := hc
      clear hc
      obtain ⟨h1a, h1b⟩ := h1
      have H2 : Hid ((zs.length : Int) = n) := h2
      have hl62 : zs.length ≤ 62 := by omega
      clear h2
      obtain ⟨p1, p2⟩ := pow_bounds n.toNat (by omega)
      have hT' := Lib.hid hT; clear hT
      go_enter Tryd.func41, Tryd.ntmps41
      go_wp2_with (go_at_call 63; refine (isSize_any _ _).mono ?_; rintro e w' ⟨rfl, rfl⟩)
      go_loopw [3, 4, 21] (fun _ _ i wr => ∃ k : Nat, k ≤ zs.length ∧ i = .int .i64 k ∧ rowsOk n zs k = true ∧ Below (w.heap.size + 1) (w.alloc (.cells #[.int .i64 n, .slice (some ⟨b, off, none⟩) zs.length cap] 28)) wr) (fun _ _ i _ => zs.length - (intOf i).toNat)
      case atStart => exact ⟨0, Nat.zero_le _, rfl, rfl, Below.refl _ _⟩
      case round =>
        obtain ⟨k, hk, rfl, hrows, hB⟩ := hrel
        have HR : Hid (rowsOk n zs k = true) := hrows
        clear hrows
        have G0 := (GBox.new (n := n) (cap := cap) hb hc'.out).below hB
        have b0 := G0.b0
        have b1 := G0.b1
        by_cases hlt : (k : Int) < zs.length
        · have hki : k < zs.length := by omega
          have hz : wr.cell? ⟨b, off + k, none⟩ = some (.int .i64 (el zs k)) := G0.cells k hki
          have hk0 : (0 : Int) ≤ k := by omega
          have hk62 : (k : Int) < 62 := by omega
          have hn0 : 0 ≤ n := by omega
          by_cases hneg : el zs k < 0
          · have e3 : isG n zs = false := isG_row hki (rowOk_no (.inl (by omega)))
            have E3 := Lib.hid e3; clear e3
            have hd : decide (el zs k < 0) = true := by simpa using hneg
            go_wp2_with (go_at_call 64; refine (allV_any _ _ hn0 h1b).mono ?_; rintro e w' ⟨rfl, rfl⟩)
            go_ret
            exact ⟨ret_bool E3.out.symm, ((Below.refl _ _).alloc (Nat.le_refl _) _).trans (hB.mono (by simp))⟩
          · have hd : decide (el zs k < 0) = false := by simpa using hneg
            by_cases hbig : 2 ^ n.toNat - 1 < el zs k
            · have e3 : isG n zs = false := isG_row hki (rowOk_no (.inl (by omega)))
              have E3 := Lib.hid e3; clear e3
              have hd2 : decide (2 ^ n.toNat - 1 < el zs k) = true := by simpa using hbig
              go_wp2_with (go_at_call 64; refine (allV_any _ _ hn0 h1b).mono ?_; rintro e w' ⟨rfl, rfl⟩)
              go_ret
              exact ⟨ret_bool E3.out.symm, ((Below.refl _ _).alloc (Nat.le_refl _) _).trans (hB.mono (by simp))⟩
            · have hd2 : decide (2 ^ n.toNat - 1 < el zs k) = false := by simpa using hbig
              have hz0 : 0 ≤ el zs k := by omega
              have hz1 : el zs k ≤ 9223372036854775807 := by omega
              have hsb := shr_bit (el zs k) k hz0 hz1
              generalize hr : bt (el zs k) k = r at hsb
              have HBT := Lib.hid hr; clear hr
              cases r
              · have HO : Hid (rowsOk n zs (k + 1) = true) := by show _ = _; rw [rowsOk_succ, HR.out, rowOk_mk hz0 (by omega) HBT.out]; rfl
                go_wp2_with (go_at_call 64; refine (allV_any _ _ hn0 h1b).mono ?_; rintro e w' ⟨rfl, rfl⟩)
                go_roundw
                case rel => exact ⟨k + 1, by omega, by go_num, HO.out, hB⟩
                case measure => simp [intOf]; omega
              · have e3 : isG n zs = false := isG_row hki (rowOk_no (.inr HBT.out))
                have E3 := Lib.hid e3; clear e3
                go_wp2_with (go_at_call 64; refine (allV_any _ _ hn0 h1b).mono ?_; rintro e w' ⟨rfl, rfl⟩)
                go_ret
                exact ⟨ret_bool E3.out.symm, ((Below.refl _ _).alloc (Nat.le_refl _) _).trans (hB.mono (by simp))⟩
        · have hkl : k = zs.length := by omega
          subst hkl
          obtain ⟨hge, hltn⟩ := rows_nat HR.out
          have hp62 : 2 ^ n.toNat ≤ 4611686018427387904 := Nat.pow_le_pow_right (n := 2) (by decide) (show n.toNat ≤ 62 by omega)
          have hf : ∀ i, i < 62 → nat zs i < 4611686018427387904 := fun i _ => Nat.lt_of_lt_of_le (hltn i) hp62
          have HF := Lib.hid hf
          have ef := rowsA_nat hge
          have HE := Lib.hid (sym_cols h1b h1a H2.out HR.out)
          have e3 : isG n zs = symTo zs zs.length := isG_last h1a h1b H2.out HR.out
          have E3 := Lib.hid e3; clear e3
          have EF := Lib.hid ef; clear ef hge hltn hf hp62
          have hSl : Hid (Sl wr (.slice (some ⟨b, off, none⟩) zs.length cap) zs) := .inr ⟨b, off, cap, rfl, G0.lb, G0.cells⟩
          have hTw : Hid (Tab wr) := (hT'.out.belowAll ((Below.refl _ w).alloc (Nat.le_refl _) _)).below hB (Nat.lt_succ_of_lt hT'.out.lt)
          have gd := eqGuard59
          have heq : ∀ W, (Op.equalIn 10000 75 (.agg (rowsL fun i => ((nat zs i : Nat) : Int)).toArray) (.agg (rowsA fun i => ((tcol (nat zs) 62 i : Nat) : Int)))).run Tryd.prog W = .ok ((List.range 62).all fun i => ((nat zs i : Nat) : Int) == ((tcol (nat zs) 62 i : Nat) : Int)) W := run_eq_rows _ _ 9998
          rw [HE.out] at heq
          go_wp2_with (first | (go_at_call 65; refine (rowArr_any _ zs _ hSl.out hl62).mono ?_; rintro e w2 ⟨rfl, hb2⟩; rw [EF.out]) | (refine wpList_store_row0 rfl rfl 75 (.tmp 5) (.tmp 45) rfl w2.heap.size (rowsA fun i => ((nat zs i : Nat) : Int)) rfl rfl 75 (rowsA fun _ => 0) (World.alloc_heap_new w2 _) (by rw [rowsA_size]; exact info59) (by rw [rowsA_size, rowsA_size]) (rowsA_one _) ?_))
          obtain ⟨W3, hW3⟩ : ∃ W3, W3 = (w2.alloc (.cells (rowsA fun _ => 0) 75)).setRow w2.heap.size (rowsA fun i => ((nat zs i : Nat) : Int)) := ⟨_, rfl⟩
          refine at_world0 (w' := W3) ?_ (by rw [hW3]; rfl)
          have hA3 : ArrB W3 w2.heap.size (fun i => ((nat zs i : Nat) : Int)) := by rw [hW3]; exact ArrB.setRow (World.alloc_heap_new w2 _ : ArrB _ _ (fun _ => 0)) _
          have hb3 : Below w2.heap.size w2 W3 := by rw [hW3]; exact ((Below.refl _ w2).alloc (Nat.le_refl _) _).trans (setRow_below (Nat.le_refl _) _)
          have hBt : Below (w.heap.size + 1) (w.alloc (.cells #[.int .i64 n, .slice (some ⟨b, off, none⟩) zs.length cap] 28)) W3.drew := ((hB.trans (hb2.mono G0.lt)).trans (hb3.mono (Nat.le_trans G0.lt hb2.size))).drew
          have hT3 : Hid (Tab W3.drew) := (hTw.out.belowAll hb2).belowAll (hb3.drew)
          have hA3d : ArrB W3.drew w2.heap.size (fun i => ((nat zs i : Nat) : Int)) := hA3
          have hlt3 : w2.heap.size + 1 ≤ W3.heap.size := hA3.lt
          have hlt4 : w.heap.size + 1 ≤ W3.heap.size := Nat.le_trans G0.lt (Nat.le_trans hb2.size (by omega))
          clear hW3 b0 b1 G0 hB e1 e2
          have hrd : W3.drew.rangeAt w2.heap.size 0 (rowsL fun i => ((nat zs i : Nat) : Int)) := ArrB.range hA3d
          have hu59 := Tryd.underlying75
          have hi59 : (Tryd.prog.info? 75).map (·.size) = some (rowsL fun i => ((nat zs i : Nat) : Int)).length := by rw [rowsL_length]; exact info59
          refine wp_region_held_drew (S := fun w' => w'.rangeAt w2.heap.size 0 (rowsL fun i => ((nat zs i : Nat) : Int))) (by kernel_rfl) hrd (fun hHeld => ?_)
          refine wpAnyH_take (i := 0) (v := .agg (rowsL fun i => ((nat zs i : Nat) : Int)).toArray) rfl (by kernel_rfl) (by kernel_rfl) (by kernel_rfl) (fun _ _ _ h => h) (yieldsIf_load_mid (by rfl) 75 (.tmp 5) rfl w2.heap.size 0 rfl (rowsL fun i => ((nat zs i : Nat) : Int)) _ (fun _ h => h) hu59 rfl hi59) hHeld ?_
          refine wpAnyH_take (i := 1) (v := .agg (rowsL fun i => ((nat zs i : Nat) : Int)).toArray) rfl (by kernel_rfl) (by kernel_rfl) (by kernel_rfl) (fun _ _ _ h => h) (yieldsIf_load_mid (by rfl) 75 (.tmp 5) rfl w2.heap.size 0 rfl (rowsL fun i => ((nat zs i : Nat) : Int)) _ (fun _ h => h) hu59 rfl hi59) hHeld ?_
          refine wpAnyH_ready (rs := [2]) (by kernel_rfl) (by simp) ?_
          refine AllReadyH.cons rfl (fun K hK => ?_) AllReadyH.nil
          go_simp
          refine (turned_any (nat zs) HF.out _ hT3.out).mono ?_
          rintro e w4 ⟨rfl, hb4⟩
          have hA4 : w4.rangeAt w2.heap.size 0 (rowsL fun i => ((nat zs i : Nat) : Int)) := ArrB.range ((hb4.block _ (by simp; omega)).trans hA3)
          have hB4 := hBt.trans (hb4.mono (by simp; omega))
          refine hK.out _ _ hA4 (fun hHeld => ?_)
          clear hK K
          refine wpAnyH_ready (rs := [3]) (by kernel_rfl) (by simp) ?_
          refine AllReadyH.cons rfl (fun K hK => ?_) AllReadyH.nil
          go_simp
          refine hK.out _ _ hA4 (fun hHeld => ?_)
          clear hK K
          refine wpAnyH_ready (rs := [4]) (by kernel_rfl) (by simp) ?_
          refine AllReadyH.cons rfl (fun K hK => ?_) AllReadyH.nil
          go_simp
          refine hK.out _ _ hA4 (fun hHeld => ?_)
          clear hK K
          refine wpAnyH_done (by kernel_rfl) ?_ _
          go_wp2
          go_ret
          exact ⟨ret_bool E3.out.symm, ((Below.refl _ _).alloc (Nat.le_refl _) _).trans (hB4.mono (by simp))⟩
    · have e2 : ((zs.length : Int) != n) = true := by simpa using h2
      have e3 : isG n zs = false := by unfold isG; simp [h2]
      rw [e3]; clear e3 hc
      go_enter Tryd.func41, Tryd.ntmps41
      go_wp2_with (go_at_call 63; refine (isSize_any _ _).mono ?_; rintro e w' ⟨rfl, rfl⟩)
      go_ret
      exact ⟨rfl, (Below.refl _ _).alloc (Nat.le_refl _) _⟩
  · have e1 : (!(decide (1 ≤ n) && decide (n ≤ 62))) = true := by simp; omega
    have e3 : isG n zs = false := by unfold isG; simp; intro a b; exact absurd ⟨a, b⟩ h1
    rw [e3]; clear e3 hc
    go_enter Tryd.func41, Tryd.ntmps41
    go_wp2_with (go_at_call 63; refine (isSize_any _ _).mono ?_; rintro e w' ⟨rfl, rfl⟩)
    go_ret
    exact ⟨rfl, (Below.refl _ _).alloc (Nat.le_refl _) _⟩

set_option maxHeartbeats 400000 in
theorem implIs_nil (n : Int) (a : Option Addr) (c : Nat) (w : World) :
    Calls Tryd.prog 41 #[.agg #[.int .i64 n, .slice a 0 c]] w fun e w' => e = .returned (.bool (isG n [])) ∧ Below w.heap.size w w' := by
  by_cases h1 : 1 ≤ n ∧ n ≤ 62
  · have e1 : (!(decide (1 ≤ n) && decide (n ≤ 62))) = false := by simp [h1]
    have e2 : ((0 : Int) != n) = true := by rw [bne_iff_ne]; omega
    have e3 : isG n [] = false := by unfold isG; simp; omega
    rw [e3]; clear e3
    go_enter Tryd.func41, Tryd.ntmps41
    go_wp2_with (go_at_call 63; refine (isSize_any _ _).mono ?_; rintro e w' ⟨rfl, rfl⟩)
    go_ret
    exact ⟨rfl, (Below.refl _ _).alloc (Nat.le_refl _) _⟩
  · have e1 : (!(decide (1 ≤ n) && decide (n ≤ 62))) = true := by simp; omega
    have e3 : isG n [] = false := by unfold isG; simp; omega
    rw [e3]; clear e3
    go_enter Tryd.func41, Tryd.ntmps41
    go_wp2_with (go_at_call 63; refine (isSize_any _ _).mono ?_; rintro e w' ⟨rfl, rfl⟩)
    go_ret
    exact ⟨rfl, (Below.refl _ _).alloc (Nat.le_refl _) _⟩

theorem implIs_any (n : Int) (v : Value) (zs : List Int) (w : World) (h : Sl w v zs) (hl : zs.length ≤ 9223372036854775807) (hT : Tab w) :
    Calls Tryd.prog 41 #[.agg #[.int .i64 n, v]] w fun e w' => e = .returned (.bool (isG n zs)) ∧ Below w.heap.size w w' := by
  rcases h with ⟨a, c, rfl, rfl⟩ | ⟨b, off, cap, rfl, hb, hc⟩
  · exact implIs_nil n a c w
  · exact implIs_some n b off cap zs w hb hc hl hT
end Go.Proofs.YtlodaeoikkjbkaaDoor
