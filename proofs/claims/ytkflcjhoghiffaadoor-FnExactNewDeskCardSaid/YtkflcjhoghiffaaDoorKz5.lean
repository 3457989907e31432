/-
  impl.wordsBy; KautzWords, both programs.
-/
import Derived.Test.YtkflcjhoghiffaaDoorKz1
import Derived.Test.YtkflcjhoghiffaaDoorKz2
import Derived.Test.YtkflcjhoghiffaaDoorKz4
import Derived.Test.YtkflcjhoghiffaaDoorUd
namespace Go.Proofs.YtkflcjhoghiffaaDoor
set_option maxRecDepth 100000
set_option maxRecDepth 100000
open Go.RowKit

/-- Which step stands at place j. -/
def fJ (kz : Bool) (j : Nat) : FuncId := if j = 0 then 57 else if kz = true then 56 else 57
theorem eg_fJ (kz : Bool) (j : Nat) : ∀ args W, (callFunc (fJ kz j) args).run Tryd.prog W = .ok (.enter (fJ kz j) args) W := by
  unfold fJ
  split
  · exact eg_every
  · split
    · exact eg_other
    · exact eg_every
theorem step_any (kz : Bool) (m j : Nat) (a : Int) (u : Value) (t : List Int) (w : World) (hu : Sl w u t) (ht : t ∈ kwL kz m j) (hj : j ≤ 61) (hm : m ≤ 62) (ha : a = ((2 ^ m - 1 : Nat) : Int)) :
    Calls Tryd.prog (fJ kz j) #[.int .i64 a, u] w fun e w' => e = .returned (.int .i64 ((kF kz m t : Nat) : Int)) ∧ w = w' := by
  have hlen := (kw_mem ht).1
  unfold fJ
  split
  · rename_i h0
    subst h0
    have : t = [] := List.length_eq_zero_iff.1 hlen
    subst this
    have hk : kF kz m [] = 2 ^ m - 1 := by unfold kF; cases kz <;> rfl
    rw [hk, ← ha]
    exact every_any a u w
  · rename_i h0
    split
    · rename_i hz
      subst hz
      obtain ⟨j', rfl⟩ : ∃ j', j = j' + 1 := ⟨j - 1, by omega⟩
      obtain ⟨l, hl, e⟩ := kw_last ht
      have hk : kF true m t = 2 ^ m - 1 - 2 ^ l := by unfold kF; rw [e]; rfl
      rw [hk]
      exact other_any m l a u t w hu e hl hm (by omega) ha
    · rename_i hz
      have hz' : kz = false := by simpa using hz
      subst hz'
      have hk : kF false m t = 2 ^ m - 1 := rfl
      rw [hk, ← ha]
      exact every_any a u w

set_option maxHeartbeats 3200000 in
theorem wordsBy_any (kz : Bool) (m c : Nat) (a : Int) (v : Value) (w : World) (hm : 1 ≤ m) (hm62 : m ≤ 62) (hz : kz = true → 2 ≤ m) (ha : a = ((2 ^ m - 1 : Nat) : Int)) (hc : c ≤ 11)
    (hS : ∃ g cap, v = .slice (some ⟨g, 0, none⟩) c cap ∧ g < w.heap.size ∧ ∀ j, j < c → w.cell? ⟨g, j, none⟩ = some (stepV (fJ kz j))) (hlen : ∀ j, j < c → (kwL kz m j).length ≤ 4000) (hT : Tab w) :
    Calls Tryd.prog 51 #[.int .i64 a, v] w fun e w' => TLRet w.heap.size (kwL kz m c) e w' ∧ Below w.heap.size w w' := by
  obtain ⟨gs, caps, rfl, hgs, hcs⟩ := hS
  obtain ⟨W0, hW0⟩ : ∃ W0, W0 = w.alloc (.cells #[.int .i64 a] 55) := ⟨_, rfl⟩
  have D0 : Below w.heap.size w W0 := by rw [hW0]; exact (Below.refl _ _).alloc (Nat.le_refl _) _
  have s0 : W0.heap.size = w.heap.size + 1 := by rw [hW0]; simp
  have BM : Hid (Bx W0 w.heap.size 55 (.int .i64 a)) := by show Bx _ _ _ _; rw [hW0]; exact World.alloc_heap_new w _
  have D1 : Below w.heap.size w (W0.alloc (.cells #[.slice none 0 0] 22)) := D0.alloc D0.size _
  have HT0 : Hid (TL (W0.alloc (.cells #[.slice none 0 0] 22)) w.heap.size (.slice (some ⟨W0.heap.size, 0, none⟩) 1 1) (kwL kz m 0)) :=
    ⟨[.slice none 0 0], ⟨⟨rfl, .inr ⟨W0.heap.size, 1, #[.slice none 0 0], rfl, D0.size, World.alloc_heap_new W0 _, Nat.le_refl _, by unfold maxLen; omega, rfl, rfl⟩⟩, rfl, fun i hi => by
      have : i = 0 := by simp [kwL] at hi; omega
      subst this
      exact ⟨_, rfl, Own.nil _ _, .inl rfl, fun _ => rfl⟩⟩, fun i j x y b hij hx hy hb => by
      have hi := (List.getElem?_eq_some_iff.1 hx).1
      have hj := (List.getElem?_eq_some_iff.1 hy).1
      simp at hi hj; omega⟩
  have HTab := Lib.hid hT
  have hg : w.heap.size < W0.heap.size := by omega
  have HCS : Hid (∀ (j : Nat) (W : World), j < c → Below w.heap.size w W → W.cell? ⟨gs, j, none⟩ = some (stepV (fJ kz j))) := fun j W hj hb => (hb.cell (p := ⟨gs, j, none⟩) hgs).trans (hcs j hj)
  have HPOS : Hid (∀ j, 0 < (kwL kz m j).length) := fun j => by rw [← sp_all]; exact sp_pos kz m hm hz j []
  have HLEN := Lib.hid hlen
  have HA := Lib.hid ha
  have hci : (c : Int) ≤ 11 := by omega
  rw [s0] at HT0
  clear hT hcs hlen ha hz
  go_enter Tryd.func51, Tryd.ntmps51
  go_wp2_with fail
  rw [← hW0]
  clear hW0
  go_loopw [5, 11] (fun t iv wr => ∃ j : Nat, j ≤ c ∧ iv = .int .i64 j ∧ Hid (TL wr w.heap.size t (kwL kz m j)) ∧ Below w.heap.size w wr ∧ Bx wr w.heap.size 55 (.int .i64 a)) (fun _ iv _ => c - (intOf iv).toNat)
  case atStart => exact ⟨0, Nat.zero_le _, rfl, HT0, D1, ((Below.refl W0.heap.size W0).alloc (Nat.le_refl _) _).block _ hg |>.trans BM.out⟩
  case round =>
    clear HT0 D1
    obtain ⟨j, hj, rfl, HTj, hE, hbm⟩ := hrel
    by_cases hlt : (j : Int) < c
    · have hjc : j < c := by omega
      have hpos := HPOS.out j
      have hTlen := HLEN.out j hjc
      obtain ⟨g, cap, rfl, hg1, hg2⟩ : ∃ g cap, u5 = .slice (some ⟨g, 0, none⟩) (kwL kz m j).length cap ∧ w.heap.size ≤ g ∧ g < wr.heap.size := by
        rcases HTj.out.ts.form with ⟨_, h0⟩ | h
        · rw [h0] at hpos; simp at hpos
        · exact h
      have hcell := HCS.out j wr hjc hE
      obtain ⟨f, hf⟩ : ∃ f, f = fJ kz j := ⟨_, rfl⟩
      have hst := fun (W : World) (u : Value) (t : List Int) (hu : Sl W u t) (ht : t ∈ kwL kz m j) => step_any kz m j a u t W hu ht (by omega) hm62 HA.out
      have hef := eg_fJ kz j
      rw [← hf] at hcell hst hef
      obtain ⟨W1, hW1⟩ : ∃ W1, W1 = wr.alloc (.cells #[stepV f] 80) := ⟨_, rfl⟩
      have hb1 : Below wr.heap.size wr W1 := by rw [hW1]; exact (Below.refl _ _).alloc (Nat.le_refl _) _
      have s1 := hb1.size
      have hbx : Bx W1 wr.heap.size 80 (stepV f) := by rw [hW1]; exact World.alloc_heap_new wr _
      have hbm1 : Bx W1 w.heap.size 55 (.int .i64 a) := (hb1.block _ hbm.lt).trans hbm
      have hE1 : Below w.heap.size w W1 := hE.trans (hb1.mono hE.size)
      have hel : ∀ i, i < (kwL kz m j).length → (elS (kwL kz m j) i).length ≤ 61 ∧ kF kz m (elS (kwL kz m j) i) < 4611686018427387904 := fun i hi => by
        have h1 := (kw_mem (elS_mem hi)).1
        have h2 := kF_lt kz m (elS (kwL kz m j) i)
        have h3 : 2 ^ m ≤ 2 ^ 62 := Nat.pow_le_pow_right (by decide) hm62
        omega
      have hlg := longer2_in 64 (.pointer (some ⟨wr.heap.size, 0, none⟩)) (.pointer (some ⟨w.heap.size, 0, none⟩)) (kF kz m) (kwL kz m j) g cap w.heap.size W1 (HTj.out.below hb1).ts (by omega) hTlen hel (HTab.out.belowAll hE1) eg_word1
        (fun i W u hi hW hu => word1_any f wr.heap.size w.heap.size a u _ W hef (hst W u _ hu.sl (elS_mem hi)) ((hW.cell (p := ⟨wr.heap.size, 0, none⟩) hbx.lt).trans hbx.cell) ((hW.cell (p := ⟨w.heap.size, 0, none⟩) hbm1.lt).trans hbm1.cell))
      rw [kw_flat hm62 j] at hlg
      have HLG := Lib.hid (callsIn_wide.1 hlg)
      obtain ⟨n, hn⟩ : ∃ n, n = (kwL kz m j).length := ⟨_, rfl⟩
      rw [← hn] at HLG
      rw [← hn]
      unfold stepV at hcell hW1
      have hj0 : (0 : Int) ≤ j := by omega
      have se := hE.size
      have hA := World.alloc_heap_new wr (.cells #[.nilFunc] 80)
      have fA := frozen_of_row _ wr.heap.size 0 _ _ hA
      have cA : (wr.alloc (.cells #[.nilFunc] 80)).cell? ⟨wr.heap.size, 0, none⟩ = some .nilFunc := by rw [cell_of_row _ wr.heap.size 0 _ _ _ hA]; rfl
      have hsto : (store ⟨wr.heap.size, 0, none⟩ (.func (.func f) #[] #[])).run Tryd.prog (wr.alloc (.cells #[.nilFunc] 80)) = .ok () ((wr.alloc (.cells #[.nilFunc] 80)).setCell ⟨wr.heap.size, 0, none⟩ (.func (.func f) #[] #[])) := by
        rw [run_store _ _ _ _ _ rfl, cA]
        simp only [fA]
        rfl
      clear hlg hpos hTlen hst hef hel hbx hn HTj hf hA cA fA
      go_wp2_with fail
      rw [← hW1]
      clear hW1
      refine HLG.out.mono ?_
      rintro e w2 ⟨⟨v1, rfl, hL1⟩, hb2⟩
      clear HLG
      have hL2 : Hid (TL w2 w.heap.size v1 (kwL kz m (j + 1))) := hL1.base (by omega)
      have hbm2 : Bx w2 w.heap.size 55 (.int .i64 a) := (hb2.block _ hbm1.lt).trans hbm1
      have hE2 : Below w.heap.size w w2 := hE1.trans (hb2.mono (by omega))
      clear hL1 hb2 hb1
      go_wp2_with fail
      go_roundw
      case rel => exact ⟨j + 1, by omega, by go_num, hL2, hE2, hbm2⟩
      case measure => simp [intOf]; omega
    · obtain rfl : j = c := by omega
      go_wp2_with fail
      go_ret
      exact ⟨⟨_, rfl, HTj.out⟩, hE⟩

/-- The words of Kautz. -/
def KzL (d k : Int) : List (List Int) := if KzC d k = 0 then kwL true (d.toNat + 1) k.toNat else []
theorem kz_zero {d k : Int} (h : KzC d k = 0) : ∃ d' k' : Nat, d = (d' : Int) ∧ k = ((k' + 1 : Nat) : Int) ∧ 1 ≤ d' ∧ d' ≤ 61 ∧ k' ≤ 9 ∧ (d' + 1) * d' ^ k' ≤ 62 := by
  unfold KzC at h
  split at h
  · rename_i hok
    simp only [kzOk, Bool.and_eq_true, decide_eq_true_eq] at hok
    split at h
    · rename_i hs
      refine ⟨d.toNat, k.toNat - 1, by omega, by omega, by omega, by omega, by omega, hs⟩
    · cases h
  · cases h
theorem kz_len (d k : Nat) (hd : 1 ≤ d) (hs : (d + 1) * d ^ k ≤ 62) : ∀ j, j ≤ k + 1 → (kwL true (d + 1) j).length ≤ 62
  | 0, _ => by simp [kwL]
  | j + 1, hj => by
    rw [kw_len, Nat.add_sub_cancel]
    refine Nat.le_trans (Nat.mul_le_mul_left _ (Nat.pow_le_pow_right hd (show j ≤ k by omega))) hs

/-- Lists of lists and a code come back, read. -/
def WsR (Ls : List (List Int)) (c : Int) (e : Ending) (w' : World) : Prop := ∃ u, e = .returned (.tuple #[u, .int .i64 c]) ∧ SS w' u Ls
def WoR (B : Nat) (Ls : List (List Int)) (c : Int) (e : Ending) (w' : World) : Prop := ∃ u, e = .returned (.tuple #[u, .int .i64 c]) ∧ LO w' B u Ls

theorem list_any (kz : Bool) (m : Nat) (D K : Int) (hm : 1 ≤ m) (hm62 : m ≤ 62) (hz : kz = true → 2 ≤ m) (hD : D = if kz = true then (m : Int) - 1 else (m : Int)) :
    ∀ (n b cap : Nat) (zs : List Int) (w : World), b < w.heap.size → Cells w b 0 zs → (zs.length : Int) + n = K → zs.length + n ≤ 11 → 1 ≤ zs.length + n → (spL kz m n zs).length ≤ 1048576 →
      Calls Tryd.prog 45 #[.int .i64 D, .int .i64 K, .bool kz, .slice (some ⟨b, 0, none⟩) zs.length cap] w fun e w' => LsR w.heap.size (spL kz m n zs) e w' ∧ Below w.heap.size w w' := by
  intro n
  induction n with
  | zero =>
    intro b cap zs w hb hc hK hl h1 _
    exact list_zero kz D K b cap zs w hb hc (by omega) (by omega) (by omega)
  | succ n IH =>
    intro b cap zs w hb hc hK hl h1 hs
    have ih : ∀ (b' cap' : Nat) (zs' : List Int) (w' : World), b' < w'.heap.size → Cells w' b' 0 zs' → zs'.length = zs.length + 1 → (spL kz m n zs').length ≤ 1048576 →
      Calls Tryd.prog 45 #[.int .i64 D, .int .i64 K, .bool kz, .slice (some ⟨b', 0, none⟩) zs'.length cap'] w' fun e w'' => LsR w'.heap.size (spL kz m n zs') e w'' ∧ Below w'.heap.size w' w'' :=
      fun b' cap' zs' w' hb' hc' he hs' => IH b' cap' zs' w' hb' hc' (by omega) (by omega) (by omega) hs'
    cases kz
    · have hD' : D = (m : Int) := by simpa using hD
      exact list_free m n D K ((m : Int) - 1) b cap zs w hm hm62 hz hb hc hl (by omega) (by omega) (by rw [hD']; exact IntWalk.i64_in _ ⟨by omega, by omega⟩) hs ih
    · have hD' : D = (m : Int) - 1 := by simpa using hD
      by_cases h0 : zs = []
      · exact list_first m n D K ((m : Int) - 1) b cap zs w hm hm62 hz hb hc hl (by omega) (by omega) hD'.symm h0 hs ih
      · have hp := List.length_pos_iff.2 h0
        exact list_next m n (zs.length - 1) D K ((m : Int) - 1) b cap zs w hm hm62 hz hb hc hl (by omega) (by omega) hD'.symm (by omega) _ rfl hs ih

theorem TL.lo {w : World} {B : Nat} {v : Value} {Ts : List (List Int)} (h : TL w B v Ts) : LO w B v Ts := by
  obtain ⟨cs, hc, hd⟩ := h
  rcases hc.form with ⟨rfl, rfl⟩ | ⟨g, cap, rfl, hB, hg⟩
  · exact .inl ⟨rfl, rfl⟩
  · obtain ⟨h1, h2, h3⟩ := hc
    have hgd : ∀ i, i < Ts.length → cs[i]? = some (cs.getD i (.slice none 0 0)) := fun i hi => by
      rw [List.getD_eq_getElem?_getD, List.getElem?_eq_getElem (by omega)]; rfl
    refine .inr ⟨g, cap, fun i => cs.getD i (.slice none 0 0), rfl, hB, hg, fun i hi => ?_, fun i j b hij hi hj hb => hd i j _ _ b hij (hgd i hi) (hgd j hj) hb⟩
    obtain ⟨u, a, b, c, _⟩ := h3 i hi
    have e : cs.getD i (.slice none 0 0) = u := by have := hgd i hi; rw [a] at this; exact (Option.some.inj this).symm
    show w.cell? ⟨g, i, none⟩ = some (cs.getD i (.slice none 0 0)) ∧ Own w B (cs.getD i (.slice none 0 0)) _ ∧ (cs.getD i (.slice none 0 0)).ownBlock ≠ some g
    rw [e]
    refine ⟨(World.ownsRow.cellAt h1 i (by omega)).trans a, b, fun e2 => ?_⟩
    rcases c with c | c
    · rw [c] at e2; cases e2
    · exact c (by rw [e2]; rfl)
theorem sb_fJ {w : World} {v : Value} {c : Nat} (h : SB w v 57 56 c) :
    ∃ g cap, v = .slice (some ⟨g, 0, none⟩) c cap ∧ g < w.heap.size ∧ ∀ j, j < c → w.cell? ⟨g, j, none⟩ = some (stepV (fJ true j)) := by
  obtain ⟨g, cap, e, _, h1, h2⟩ := h
  exact ⟨g, cap, e, h1, fun j hj => by rw [h2 j hj]; unfold fJ; rfl⟩

theorem KzL_sizes (d k : Int) : (KzL d k).length ≤ 62 ∧ ∀ i, i < (KzL d k).length → (elS (KzL d k) i).length ≤ 10 := by
  by_cases h : KzC d k = 0
  · obtain ⟨d', k', rfl, rfl, h1, h2, h3, h4⟩ := kz_zero h
    have hL : KzL (d' : Int) ((k' + 1 : Nat) : Int) = kwL true (d' + 1) (k' + 1) := by
      unfold KzL
      rw [if_pos h, Int.toNat_natCast, Int.toNat_natCast]
    rw [hL]
    exact ⟨kz_len d' k' h1 h4 (k' + 1) (by omega), fun i hi => by rw [(kw_mem (elS_mem hi)).1]; omega⟩
  · have hL : KzL d k = [] := by unfold KzL; rw [if_neg h]
    rw [hL]
    exact ⟨by simp, fun i hi => by simp at hi⟩
end Go.Proofs.YtkflcjhoghiffaaDoor
