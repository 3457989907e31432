/-
  impl.WalkSum, whatever comes in.
-/
import Derived.Test.YthonkphjahomeaaDoorWk4
namespace Go.Proofs.YthonkphjahomeaaDoor
set_option maxRecDepth 100000
open Go.RowKit

theorem wsN_zero' {n m : Int} {k : Nat} {fs zs : List Int} (h : ¬ wkC n m k fs zs = 0) : wsN n m k fs zs = 0 := by unfold wsN; rw [if_neg h]
theorem wsN_yes' {n m : Int} {k : Nat} {fs zs : List Int} (h : wkC n m k fs zs = 0) : wsN n m k fs zs = (sumS m.toNat fs zs zs.length : Nat) := by unfold wsN; rw [if_pos h]
/-- What holds of a walk. -/
theorem wk_parts {n m : Int} {k : Nat} {fs zs : List Int} (h : wkC n m k fs zs = 0) : isB n m k fs = true ∧ zs.length ≤ 14 ∧ nbTo k zs zs.length = true ∧ isW m.toNat fs zs = true := by
  unfold wkC at h
  split at h
  · next h1 =>
    split at h
    · next h2 =>
      split at h
      · next h3 =>
        rw [Bool.and_eq_true, decide_eq_true_eq] at h2
        exact ⟨h1, h2.1, h2.2, h3⟩
      · exact absurd h (by decide)
    · exact absurd h (by decide)
  · exact absurd h (by decide)
theorem sumI_le {n m k : Nat} {fs zs : List Int} (hav : AvOk n m k fs) (hnb : nbTo k zs zs.length = true) (hm : m ≤ 62) : ∀ i, i ≤ zs.length → sumI m fs zs i ≤ i * 61
  | 0, _ => by simp [sumI]
  | i + 1, h => by
    have h1 := sumI_le hav hnb hm i (by omega)
    have h2 := (stA_lt hav (nbTo_at hnb (show i < zs.length by omega)).2).2.2
    rw [sumI]; omega

set_option maxHeartbeats 1600000 in
theorem implWs_no (n m : Int) (v : Value) (k : Nat) (fs zs : List Int) (p : Option Addr) (c : Nat) (w : World) (hs : Sa w v k fs) (hk : k ≤ 9223372036854775807) (hz : Sl w (.slice p zs.length c) zs) (hc : zs.length ≤ c) (hl : zs.length ≤ 9223372036854775807) (hE : ErrW w) (h0 : ¬ wkC n m k fs zs = 0) :
    Calls Tryd.prog 10 #[.agg #[.int .i64 n, .int .i64 m, v], .slice p zs.length c] w fun e w' => e = .returned (.tuple #[.int .i64 0, .int .i64 (wkC n m k fs zs)]) ∧ Below w.heap.size w w' := by
  have D0 : Below w.heap.size w (w.alloc (.cells #[.int .i64 n, .int .i64 m, v] 31)) := (Below.refl _ _).alloc (Nat.le_refl _) _
  have hwk := walkOf_any n m v k fs zs p c (w.alloc (.cells #[.int .i64 n, .int .i64 m, v] 31)) (hs.below D0) hk (hz.below D0) hc hl (hE.belowAll D0)
  obtain ⟨C, hC⟩ : ∃ C, C = wkC n m k fs zs := ⟨_, rfl⟩
  rw [← hC] at hwk h0 ⊢
  have hne : (C != 0) = true := by simpa using h0
  clear hs hz hC h0 hE
  go_enter Tryd.func10, Tryd.ntmps10
  go_wp2_with (go_at_call 23; refine hwk.mono ?_; rintro e w1 ⟨⟨q, rfl, -⟩, hb1⟩)
  go_ret2
  exact ⟨rfl, D0.trans (hb1.mono (by simp))⟩

set_option maxHeartbeats 3200000 in
theorem implWs_yes (n m k cap : Nat) (sa : Option Addr) (fs zs : List Int) (p : Option Addr) (c : Nat) (w : World) (hs : Sa w (.slice sa k cap) k fs) (hav : AvOk n m k fs) (hnm : n ≤ 10 ∧ m ≤ 62 ∧ k ≤ 16) (hm1 : 1 ≤ m) (hz : Sl w (.slice p zs.length c) zs) (hc : zs.length ≤ c) (hE : ErrW w) (h0 : wkC n m k fs zs = 0) :
    Calls Tryd.prog 10 #[.agg #[.int .i64 n, .int .i64 m, .slice sa k cap], .slice p zs.length c] w fun e w' => e = .returned (.tuple #[.int .i64 (sumS m fs zs zs.length : Nat), .int .i64 0]) ∧ Below w.heap.size w w' := by
  obtain ⟨-, h14, hnb, -⟩ := wk_parts h0
  obtain ⟨n2, m2, k16⟩ := hnm
  have D0 : Below w.heap.size w (w.alloc (.cells #[.int .i64 n, .int .i64 m, .slice sa k cap] 31)) := (Below.refl _ _).alloc (Nat.le_refl _) _
  have HG0 := Lib.hid (World.alloc_heap_new w (.cells #[.int .i64 n, .int .i64 m, .slice sa k cap] 31))
  obtain ⟨W0, hW0⟩ : ∃ W0, W0 = w.alloc (.cells #[.int .i64 n, .int .i64 m, .slice sa k cap] 31) := ⟨_, rfl⟩
  have sz0 : w.heap.size + 1 ≤ W0.heap.size := by rw [hW0]; simp
  rw [← hW0] at HG0 D0
  have hwk := walkOf_any n m (.slice sa k cap) k fs zs p c W0 (hs.below D0) (by omega) (hz.below D0) hc (by omega) (hE.belowAll D0)
  rw [h0, Int.toNat_natCast] at hwk
  have HLE : Hid (∀ i, i ≤ zs.length → sumI m fs zs i ≤ i * 61) := sumI_le hav hnb m2
  have HV : Hid (∀ i, i < zs.length → stA m fs (sp zs i) 2 < m) := fun i hi => (stA_lt hav (nbTo_at hnb hi).2).2.2
  have HEQ : Hid (Int.tmod (sumI m fs zs zs.length : Nat) (m : Int) = (sumS m fs zs zs.length : Nat)) := by show _ = _; rw [sumS_eq]; rfl
  have hlt : sumS m fs zs zs.length < m := sumS_lt fs zs hm1 _
  obtain ⟨⟨b0, b1, b2⟩, -⟩ := three_cells HG0.out
  have HD := Lib.hid D0
  have hm0 : ¬ m = 0 := by omega
  clear hs hz h0 hE hnb hav D0
  go_enter Tryd.func10, Tryd.ntmps10
  go_upto_region 1 with fail
  rw [← hW0]
  clear hW0
  go_wp2_with (go_at_call 23; refine hwk.mono ?_; rintro e w1 ⟨⟨q, rfl, hch⟩, hb1⟩)
  have X1 : Hid (w1.heap[w.heap.size]? = some (.cells #[.int .i64 n, .int .i64 m, .slice sa k cap] 31 (0, 0))) := (hb1.block _ (by omega)).trans HG0.out
  have HC : Hid (Ch w1 0 m fs zs 0 (zs.length - 0) q) := (hch trivial).kept (Nat.zero_le _) (fun _ _ _ => rfl)
  obtain ⟨a0, rfl⟩ := HC.out.ptr
  have HB1 := Lib.hid (HD.out.trans (hb1.mono HD.out.size))
  clear hwk hch hb1 b0 b1 b2 HG0
  obtain ⟨⟨b0, b1, b2⟩, -⟩ := three_cells X1.out
  go_loopw [8, 9] (fun sv qv wr => ∃ (i s : Nat) (a : Option Addr), i ≤ zs.length ∧ Hid (s = sumI m fs zs i) ∧ sv = .int .i64 s ∧ qv = .pointer a ∧ Hid (Ch w1 0 m fs zs i (zs.length - i) (.pointer a)) ∧ wr = w1) (fun _ qv _ => chM w1.heap.size qv)
  case atStart => exact ⟨0, 0, a0, Nat.zero_le _, rfl, rfl, rfl, HC, rfl⟩
  case round =>
    obtain ⟨i, s, a, hi, HS, rfl, rfl, HCH, rfl⟩ := hrel
    by_cases hlt : i < zs.length
    · obtain ⟨d, hd⟩ : ∃ d, zs.length - i = d + 1 := ⟨zs.length - i - 1, by omega⟩
      have hch := HCH.out
      rw [hd] at hch
      obtain ⟨g, q, e, hgl, hgc, hnx, hms⟩ := hch.step
      injection e with e
      subst e
      have hs := HLE.out i hi
      rw [← HS.out] at hs
      have hv := HV.out i hlt
      obtain ⟨v, hvv⟩ : ∃ v, v = stA m fs (sp zs i) 2 := ⟨_, rfl⟩
      have HN : Hid (Ch wr 0 m fs zs (i + 1) (zs.length - (i + 1)) (.pointer q)) := by show Ch _ _ _ _ _ _ _ _; rw [show zs.length - (i + 1) = d by omega]; exact hnx
      have HS1 : Hid (s + v = sumI m fs zs (i + 1)) := by show _ = _; rw [sumI, ← HS.out, hvv]
      have HM : Hid (chM wr.heap.size (.pointer q) < wr.heap.size - g) := hms
      obtain ⟨⟨x0, x1, x2, x3, x4⟩, -⟩ := five_cells hgc
      rw [← hvv] at x3 hv
      have g1 : IntKind.i64.wrap ((s : Int) + (v : Int)) = (s : Int) + (v : Int) := IntWalk.i64_in _ (by omega)
      clear hch hgc hnx hms hs hvv HS HCH hd
      go_wp2_with fail
      exact ⟨⟨i + 1, s + v, q, by omega, HS1, by push_cast; rfl, rfl, HN, trivial⟩, by simpa [chM] using HM.out⟩
    · obtain rfl : i = zs.length := by omega
      have e0 : a = none := by
        have h := HCH.out
        rw [Nat.sub_self] at h
        injection h
      subst e0
      have HQ := HEQ.out
      rw [← HS.out] at HQ
      have g2 : IntKind.i64.wrap ((sumS m fs zs zs.length : Nat) : Int) = ((sumS m fs zs zs.length : Nat) : Int) := IntWalk.i64_in _ (by omega)
      go_wp2_with fail
      go_ret2
      exact ⟨rfl, HB1.out⟩

theorem implWs_any (n m : Int) (v : Value) (k : Nat) (fs zs : List Int) (p : Option Addr) (c : Nat) (w : World) (hs : Sa w v k fs) (hk : k ≤ 9223372036854775807) (hz : Sl w (.slice p zs.length c) zs) (hc : zs.length ≤ c) (hl : zs.length ≤ 9223372036854775807) (hE : ErrW w) :
    Calls Tryd.prog 10 #[.agg #[.int .i64 n, .int .i64 m, v], .slice p zs.length c] w fun e w' => e = .returned (.tuple #[.int .i64 (wsN n m k fs zs), .int .i64 (wkC n m k fs zs)]) ∧ Below w.heap.size w w' := by
  by_cases h0 : wkC n m k fs zs = 0
  · rw [wsN_yes' h0]
    obtain ⟨N, M, rfl, rfl, h1, h2, h3, h4, _, h6, hav⟩ := isB_nats (wk_parts h0).1
    have hf := hs.form
    obtain ⟨sa, cap, rfl⟩ : ∃ sa cap, v = .slice sa k cap := ⟨_, _, hf⟩
    have h := implWs_yes N M k cap sa fs zs p c w hs hav ⟨h2, h4, h6⟩ h3 hz hc hE h0
    rw [h0]; exact h
  · rw [wsN_zero' h0]
    exact implWs_no n m v k fs zs p c w hs hk hz hc hl hE h0
end Go.Proofs.YthonkphjahomeaaDoor
