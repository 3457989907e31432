/-
  IsPartition: both programs.
-/
import Derived.Test.YtffofebmdmdeoaaDoorIp1
import Derived.Test.YtffofebmdmdeoaaDoorIsA
namespace Go.Proofs.YtffofebmdmdeoaaDoor
set_option maxRecDepth 100000
open Go.RowKit

def IpD (n0 : Int) (zs0 zs1 : List Int) : Bool := if isG n0 zs0 then ptB n0 zs1 else false
def IpC (n0 : Int) (zs0 : List Int) : Int := if isG n0 zs0 then 0 else 1

set_option maxHeartbeats 400000 in
theorem inP_any (a b c : Int) (w : World) :
    Calls Tryd.prog 56 #[.int .i64 a, .int .i64 b, .int .i64 c] w fun e w' => e = .returned (.bool (decide (b ≤ a) && decide (a ≤ c))) ∧ w = w' := by
  by_cases h : b ≤ a
  · have h' : decide (b ≤ a) = true := by simpa using h
    have h2 : (decide (b ≤ a) && decide (a ≤ c)) = decide (a ≤ c) := by rw [h']; rfl
    rw [h2]; clear h2
    go_enter Tryd.func56, Tryd.ntmps56
    go_wp2
    go_ret
    exact ⟨rfl, rfl⟩
  · have h' : decide (b ≤ a) = false := by simpa using h
    have h2 : (decide (b ≤ a) && decide (a ≤ c)) = false := by rw [h']; rfl
    rw [h2]; clear h2
    go_enter Tryd.func56, Tryd.ntmps56
    go_wp2
    go_ret
    exact ⟨rfl, rfl⟩

theorem goP_drop (zs : List Int) (i m : Nat) (h : i < zs.length) : goP m (zs.drop i) = if 0 ≤ el zs i ∧ el zs i ≤ m then goP (if el zs i = m then m + 1 else m) (zs.drop (i + 1)) else false := by
  rw [List.drop_eq_getElem_cons h]
  have e : zs[i] = el zs i := by simp [el, h]
  rw [e]; rfl

set_option maxHeartbeats 1600000 in
theorem l10Is_at (n : Int) (u : Value) (pa : Option Addr) (pc : Nat) (zs : List Int) (w : World) (h : Sl w (.slice pa zs.length pc) zs) (hl : zs.length ≤ 9007199254740992) :
    Calls Tryd.prog 34 #[.agg #[.int .i64 n, u], .slice pa zs.length pc] w fun e w' => e = .returned (.bool (ptB n zs)) ∧ Below w.heap.size w w' := by
  have HS := Lib.hid h
  clear h
  obtain ⟨W, hW⟩ : ∃ W, W = w.alloc (.cells #[.int .i64 n, u] 28) := ⟨_, rfl⟩
  have D0 : Below w.heap.size w W := by rw [hW]; exact (Below.refl _ _).alloc (Nat.le_refl _) _
  have sW : W.heap.size = w.heap.size + 1 := by rw [hW]; simp
  have HG : Hid (W.heap[w.heap.size]? = some (.cells #[.int .i64 n, u] 28 (0, 0))) := by rw [hW]; exact World.alloc_heap_new w _
  have hpt : ∀ b : Bool, goP 0 zs = b → ptB n zs = (b && decide ((zs.length : Int) = n)) := fun b e => by unfold ptB; rw [e]
  obtain ⟨B, hB⟩ : ∃ B, B = ptB n zs := ⟨_, rfl⟩
  rw [← hB] at hpt ⊢
  have HPT := Lib.hid hpt
  clear hpt hB
  go_enter Tryd.func34, Tryd.ntmps34
  go_wp2_with fail
  rw [← hW]
  clear hW
  go_loopw [5, 6] (fun mo c wr => ∃ i m : Nat, i ≤ zs.length ∧ m ≤ i ∧ mo = .int .i64 m ∧ c = .int .i64 i ∧ Hid (goP 0 zs = goP m (zs.drop i)) ∧ Below w.heap.size w wr ∧ Hid (wr.heap[w.heap.size]? = some (.cells #[.int .i64 n, u] 28 (0, 0)))) (fun _ c _ => zs.length - (intOf c).toNat)
  case atStart => exact ⟨0, 0, Nat.zero_le _, Nat.le_refl _, rfl, rfl, rfl, D0, HG⟩
  case round =>
    obtain ⟨i, m, hi, hmi, rfl, rfl, HP, hE, HGr⟩ := hrel
    by_cases hlt : (i : Int) < zs.length
    · have hil : i < zs.length := by omega
      have hi0 : (0 : Int) ≤ i := by omega
      obtain ⟨b, off, rfl, hb, hc⟩ : ∃ b off, pa = some ⟨b, off, none⟩ ∧ b < wr.heap.size ∧ Cells wr b off zs := by
        rcases HS.out.below hE with ⟨_, _, _, h0⟩ | ⟨b, off, cap, he, hb, hc⟩
        · rw [h0] at hil; simp at hil
        · injection he with e1 _ _; exact ⟨b, off, e1, hb, hc⟩
      have hz := hc i hil
      have hgo := goP_drop zs i m hil
      obtain ⟨z, hzz⟩ : ∃ z, z = el zs i := ⟨_, rfl⟩
      rw [← hzz] at hz hgo
      clear hc hb hzz
      by_cases hin : 0 ≤ z ∧ z ≤ m
      · have h1 : (decide ((0 : Int) ≤ z) && decide (z ≤ (m : Int))) = true := by simp [hin.1, hin.2]
        have hin' := inP_any z 0 m
        rw [h1] at hin'
        rw [if_pos hin] at hgo
        by_cases he : z = m
        · subst he
          rw [if_pos rfl] at hgo
          have HGO : Hid (goP 0 zs = goP (m + 1) (zs.drop (i + 1))) := HP.out.trans hgo
          clear hgo h1 hin
          go_wp2_with (go_at_call 56; refine (hin' _).mono ?_; rintro e w' ⟨rfl, rfl⟩)
          go_roundw
          case rel => exact ⟨i + 1, m + 1, by omega, by omega, by go_num, by go_num, HGO, hE, HGr⟩
          case measure => simp [intOf]; omega
        · rw [if_neg he] at hgo
          have HGO : Hid (goP 0 zs = goP m (zs.drop (i + 1))) := HP.out.trans hgo
          have hne : (z == (m : Int)) = false := by simpa using he
          clear hgo h1 hin he
          go_wp2_with (go_at_call 56; refine (hin' _).mono ?_; rintro e w' ⟨rfl, rfl⟩)
          go_roundw
          case rel => exact ⟨i + 1, m, by omega, by omega, rfl, by go_num, HGO, hE, HGr⟩
          case measure => simp [intOf]; omega
      · have h1 : (decide ((0 : Int) ≤ z) && decide (z ≤ (m : Int))) = false := by
          rw [Bool.and_eq_false_iff, decide_eq_false_iff_not, decide_eq_false_iff_not]; omega
        have hin' := inP_any z 0 m
        rw [h1] at hin'
        rw [if_neg hin] at hgo
        have hf := HPT.out false (HP.out.trans hgo)
        rw [Bool.false_and] at hf
        have HF := Lib.hid hf
        clear hgo h1 hin hf
        go_wp2_with (go_at_call 56; refine (hin' _).mono ?_; rintro e w' ⟨rfl, rfl⟩)
        go_ret
        exact ⟨ret_bool HF.out.symm, hE⟩
    · obtain rfl : i = zs.length := by omega
      have hd : goP 0 zs = true := by rw [HP.out]; simp [goP]
      have hf := HPT.out true hd
      rw [Bool.true_and] at hf
      have HF : Hid ((((zs.length : Int)) == n) = B) := by
        show _ = _
        rw [hf, Bool.eq_iff_iff, beq_iff_eq, decide_eq_true_iff]
      have c0 := (two_cells HGr.out).1
      clear hf hd
      go_wp2_with fail
      go_ret
      exact ⟨ret_bool HF.out, hE⟩
theorem l10Is_any (n : Int) (u v : Value) (zs : List Int) (w : World) (h : Sl w v zs) (hl : zs.length ≤ 9007199254740992) :
    Calls Tryd.prog 34 #[.agg #[.int .i64 n, u], v] w fun e w' => e = .returned (.bool (ptB n zs)) ∧ Below w.heap.size w w' := by
  have f := slForm h
  rw [f] at h ⊢
  exact l10Is_at n u _ _ zs w h hl

set_option maxHeartbeats 800000 in
theorem specIp_any (n : Int) (u v : Value) (zs zs1 : List Int) (w : World) (h : Sl w u zs) (hl : zs.length ≤ 9223372036854775807) (h1 : Sl w v zs1) (hl1 : zs1.length ≤ 9007199254740992) :
    Calls Tryd.prog 10 #[.agg #[.int .i64 n, u], v] w fun e w' => e = .returned (.tuple #[.bool (IpD n zs zs1), .int .i64 (IpC n zs)]) ∧ Below w.heap.size w w' := by
  have D0 : Below w.heap.size w (w.alloc (.cells #[.int .i64 n, u] 28)) := (Below.refl _ _).alloc (Nat.le_refl _) _
  have his := l01Is_any n u zs _ (h.below D0) hl
  have HL := Lib.hid (fun W hW => l10Is_any n u v zs1 W (h1.below hW) hl1)
  have HG := Lib.hid (World.alloc_heap_new w (.cells #[.int .i64 n, u] 28))
  unfold IpD IpC
  clear h h1
  cases hg : isG n zs with
  | true =>
    rw [hg] at his
    rw [if_pos rfl, if_pos rfl]
    clear hg
    go_enter Tryd.func10, Tryd.ntmps10
    go_wp2_with (first
      | (go_at_call 33; refine his.mono ?_; rintro e w1 ⟨rfl, hb1⟩; have HX := Lib.hid ((hb1.block w.heap.size (by simp)).trans HG.out); have c0 := (two_cells HX.out).1; have c1 := (two_cells HX.out).2.1; have HB1 := Lib.hid hb1; clear hb1)
      | (go_at_call 34; refine (HL.out _ (D0.trans (HB1.out.mono (by simp)))).mono ?_; rintro e w2 ⟨rfl, hb2⟩))
    go_ret2
    exact ⟨rfl, (D0.trans (HB1.out.mono (by simp))).trans (hb2.mono (by have := HB1.out.size; simp at this; omega))⟩
  | false =>
    rw [hg] at his
    rw [if_neg (by simp), if_neg (by simp)]
    clear hg
    go_enter Tryd.func10, Tryd.ntmps10
    go_wp2_with (go_at_call 33; refine his.mono ?_; rintro e w1 ⟨rfl, hb1⟩)
    go_ret2
    exact ⟨rfl, D0.trans (hb1.mono (by simp))⟩

set_option maxHeartbeats 1600000 in
theorem implIp_any (n : Int) (u v : Value) (zs zs1 : List Int) (w : World) (h : Sl w u zs) (hl : zs.length ≤ 9223372036854775807) (h1 : Sl w v zs1) (hl1 : zs1.length ≤ 9007199254740992) (hT : Tab w) (hwf : ∀ z, z ∈ zs1 → (Lit.int .i64 z).wf = true) :
    Calls Tryd.prog 13 #[.agg #[.int .i64 n, u], v] w fun e w' => e = .returned (.tuple #[.bool (IpD n zs zs1), .int .i64 (IpC n zs)]) ∧ Below w.heap.size w w' := by
  have D0 : Below w.heap.size w (w.alloc (.cells #[.int .i64 n, u] 28)) := (Below.refl _ _).alloc (Nat.le_refl _) _
  have his := implIs_any n u zs _ (h.below D0) hl (hT.belowAll D0)
  have HG := Lib.hid (World.alloc_heap_new w (.cells #[.int .i64 n, u] 28))
  have f1 := slForm h1
  have HS1 := Lib.hid h1
  unfold IpD IpC
  clear h h1
  cases hg : isG n zs with
  | true =>
    rw [hg] at his
    have g2 : n ≤ 62 := by unfold isG at hg; simp only [Bool.and_eq_true, decide_eq_true_eq] at hg; exact hg.1.1.1.2
    rw [if_pos rfl, if_pos rfl]
    by_cases hn : (zs1.length : Int) = n
    · have h62 : zs1.length ≤ 62 := by omega
      have HP := Lib.hid (fun W hW => partI_any v zs1 W (HS1.out.below hW) h62 (fun i hi => hwf _ (by unfold el; rw [List.getD_eq_getElem?_getD, List.getElem?_eq_getElem hi]; exact List.getElem_mem hi)))
      have HE := Lib.hid (fun (W : World) x (hx : Sl W x (parF [] zs1)) (hW : Below w.heap.size w W) => slEq_any x v (parF [] zs1) zs1 W hx (HS1.out.below hW) (by rw [parF_length]; omega))
      have hbn : ((zs1.length : Int) == n) = true := by simpa using hn
      rw [ptB_par n zs1 hn]
      obtain ⟨R, hR⟩ : ∃ R, R = decide (parF [] zs1 = zs1) := ⟨_, rfl⟩
      rw [← hR] at HE ⊢
      rw [f1] at HP HE ⊢
      clear hg hn hR HS1 f1 hwf
      go_enter Tryd.func13, Tryd.ntmps13
      go_wp2_with (first
        | (go_at_call 24; refine his.mono ?_; rintro e w1 ⟨rfl, hb1⟩; have HX := Lib.hid ((hb1.block w.heap.size (by simp)).trans HG.out); have c0 := (two_cells HX.out).1; have HB1 : Hid (Below w.heap.size w w1) := D0.trans (hb1.mono (by simp)); clear hb1)
        | (go_at_call 36; refine (HP.out _ HB1.out).mono ?_; rintro e w2 ⟨⟨x2, rfl, hO2⟩, hb2⟩; have HB2 : Hid (Below w.heap.size w w2) := HB1.out.trans (hb2.mono HB1.out.size); have HO2 := Lib.hid hO2.sl; clear hO2 hb2)
        | (go_at_call 35; refine (HE.out _ _ HO2.out HB2.out).mono ?_; rintro e w3 ⟨rfl, hb3⟩))
      go_ret2
      exact ⟨rfl, HB2.out.trans (hb3.mono HB2.out.size)⟩
    · have hbn : ((zs1.length : Int) == n) = false := by simpa using hn
      have hpt : ptB n zs1 = false := by unfold ptB; rw [decide_eq_false hn, Bool.and_false]
      rw [hpt, f1]
      clear hg hn f1 HS1 hpt hwf
      go_enter Tryd.func13, Tryd.ntmps13
      go_wp2_with (go_at_call 24; refine his.mono ?_; rintro e w1 ⟨rfl, hb1⟩; have HX := Lib.hid ((hb1.block w.heap.size (by simp)).trans HG.out); have c0 := (two_cells HX.out).1; have HB1 : Hid (Below w.heap.size w w1) := D0.trans (hb1.mono (by simp)); clear hb1)
      go_ret2
      exact ⟨rfl, HB1.out⟩
  | false =>
    rw [hg] at his
    rw [if_neg (by simp), if_neg (by simp), f1]
    clear hg f1 HS1 hwf
    go_enter Tryd.func13, Tryd.ntmps13
    go_wp2_with (go_at_call 24; refine his.mono ?_; rintro e w1 ⟨rfl, hb1⟩)
    go_ret2
    exact ⟨rfl, D0.trans (hb1.mono (by simp))⟩
end Go.Proofs.YtffofebmdmdeoaaDoor
