/-
  The model's words: spec.l08List, by induction on how many numbers are wanting. (gen: mk_kz2.py)
-/
import Derived.Test.YtkflcjhoghiffaaDoorKz0
namespace Go.Proofs.YtkflcjhoghiffaaDoor
set_option maxRecDepth 100000
set_option maxRecDepth 100000
open Go.RowKit

set_option maxHeartbeats 800000 in
theorem l01Own_some (b off cap : Nat) (zs : List Int) (w : World) (hb : b < w.heap.size) (hc : Cells w b off zs) (hl : zs.length ≤ 62) :
    Calls Tryd.prog 58 #[.slice (some ⟨b, off, none⟩) zs.length cap] w fun e w' => ∃ u, e = .returned u ∧ Own w' w.heap.size u zs ∧ Below w.heap.size w w' := by
  obtain ⟨i0, hi, hz0, hz1, hz2⟩ := info_parts mk_info
  have HI := Lib.hid hi; have HI0 := Lib.hid hz0; have HI1 := Lib.hid hz1; have HI2 := Lib.hid hz2
  clear hi hz0 hz1 hz2
  have D0 : Below w.heap.size w (w.alloc (.cells #[] 2)) := (Below.refl _ _).alloc (Nat.le_refl _) _
  have hnil : (w.alloc (.cells #[] 2)).ownsRow w.heap.size 2 1 (.slice (some ⟨w.heap.size, 0, none⟩) 0 0) 0 [] := World.ownsRow_made w #[] 0 (base := w.heap.size) (e := 2) (size := 1) (Nat.le_refl _) (by decide) rfl
  have hcc := Lib.hid (hc.below D0 hb)
  have hnews : ∀ j u, (zs.map (Value.int .i64))[j]? = some u → (w.alloc (.cells #[] 2)).cell? ((⟨b, off, none⟩ : Addr).add j) = some u := by
    intro j u hj
    have hjl : j < zs.length := by
      have := (List.getElem?_eq_some_iff.1 hj).1
      simpa using this
    rw [map_at zs j hjl] at hj
    cases hj
    have hz := hcc.out j hjl
    simp only [Addr.add]
    split
    · rename_i h0; subst h0; simpa using hz
    · exact hz
  have HN := Lib.hid hnews
  have HW := Lib.hid hnil
  clear hnews hnil hc
  go_enter Tryd.func58, Tryd.ntmps58
  go_wp2_with (at_builtin; refine wpList_append_own _ rfl _ _ 22 rfl w.heap.size 2 i0 (.int .i64 0) 1 8 Tryd.underlying22 HI.out HI0.out HI1.out HI2.out rfl (by decide) _ _ _ rfl HW.out ⟨b, off, none⟩ zs.length cap (zs.map (Value.int .i64)) rfl (by simp) HN.out (by simp [Value.oneCell']) (by unfold maxLen; omega) (by omega) (by simp) ?_; intro u' w3 hown3 hgr3 _)
  have E3 := D0.grown hgr3 (by simp) (fun k e => (World.ownsRow.lt HW.out k e).1)
  have HO : Hid (Own w3 w.heap.size u' zs) := by
    show World.ownsRow _ _ _ _ _ _ _
    rw [Nat.zero_add, List.nil_append] at hown3
    exact hown3
  clear hown3 hgr3
  go_wp2
  go_ret
  exact ⟨_, rfl, HO.out, E3⟩


theorem TSc.app {w w' : World} {B B2 : Nat} {v v' v2 : Value} {Ts Us : List (List Int)} {cs ds : List Value} (h : TSc w B v Ts cs) (h2 : TSc w B2 v2 Us ds) (hB : B ≤ B2) (hfar : ∀ k, v.ownBlock = some k → k < B2)
    (hown : w'.ownsRow B 22 1 v' (Ts.length + Us.length) (cs ++ ds)) (hg : w.grownBy w' v.ownBlock) (hloc : v'.ownBlock = v.ownBlock ∨ v'.ownBlock = some w.heap.size) : TS w' B v' (Ts ++ Us) := by
  obtain ⟨h1, hc, h3⟩ := h
  obtain ⟨k1, kc, k3⟩ := h2
  have far : ∀ {x : Value} {L : List Int}, Own w B x L → (x.ownBlock = none ∨ x.ownBlock ≠ v.ownBlock) → (x.ownBlock = none ∨ x.ownBlock ≠ v'.ownBlock) := fun {x L} hx hn => by
    rcases hn with hn | hn
    · exact .inl hn
    · rcases hloc with e | e
      · exact .inr (by rw [e]; exact hn)
      · cases hb : x.ownBlock with
        | none => exact .inl rfl
        | some k => exact .inr (fun e2 => by rw [e] at e2; cases e2; have := hx.lt _ hb; omega)
  refine ⟨cs ++ ds, by rw [List.length_append]; exact hown, by simp [hc, kc], fun i hi => ?_⟩
  rw [List.length_append] at hi
  by_cases e : i < Ts.length
  · obtain ⟨x, a, b, c, d⟩ := h3 i e
    rw [elS_left _ _ _ e]
    exact ⟨x, by rw [List.getElem?_append_left (by omega)]; exact a, b.kept hg c, far b c, d⟩
  · obtain ⟨x, a, b, c, d⟩ := k3 (i - Ts.length) (by omega)
    have he : elS (Ts ++ Us) i = elS Us (i - Ts.length) := by unfold elS; rw [List.getD_eq_getElem?_getD, List.getD_eq_getElem?_getD, List.getElem?_append_right (by omega)]
    rw [he]
    have hne : x.ownBlock = none ∨ x.ownBlock ≠ v.ownBlock := by
      cases hb : x.ownBlock with
      | none => exact .inl rfl
      | some k => exact .inr fun e2 => by have h5 := hfar k e2.symm; have h6 := b.ge k hb; omega
    exact ⟨x, by rw [List.getElem?_append_right (by omega), hc]; exact a, (b.base hB).kept hg hne, far (b.base hB) hne, d⟩
theorem TSc.one {w : World} {B : Nat} {v : Value} {Ts : List (List Int)} {cs : List Value} (h : TSc w B v Ts cs) : ∀ u ∈ cs, u.oneCell' = true := fun u hu => by
  obtain ⟨i, hi, e⟩ := List.getElem_of_mem hu
  obtain ⟨x, a, b, _⟩ := h.2.2 i (by rw [← h.2.1]; exact hi)
  rw [List.getElem?_eq_getElem hi, e] at a
  cases a
  rcases b.form with ⟨rfl, _⟩ | ⟨g, cap, rfl, _⟩ <;> rfl

/-- The words that begin with zs, the next number less than x. -/
def preL (kz : Bool) (m n : Nat) (zs : List Int) (x : Nat) : List (List Int) := ((List.range x).filter fun y : Nat => !(kz && (zs.getLast? == some (y : Int)))).flatMap fun y : Nat => spL kz m n (zs ++ [(y : Int)])
theorem preL_zero (kz : Bool) (m n : Nat) (zs : List Int) : preL kz m n zs 0 = [] := rfl
theorem preL_all (kz : Bool) (m n : Nat) (zs : List Int) : preL kz m n zs m = spL kz m (n + 1) zs := by
  rw [spL]
  unfold extK preL nxt
  rw [List.flatMap_map]
theorem preL_yes {kz : Bool} {m n : Nat} {zs : List Int} {x : Nat} (h : (kz && (zs.getLast? == some (x : Int))) = false) : preL kz m n zs (x + 1) = preL kz m n zs x ++ spL kz m n (zs ++ [(x : Int)]) := by
  unfold preL
  rw [List.range_succ, List.filter_append, List.flatMap_append]
  simp only [List.filter_cons, List.filter_nil, h]
  simp
theorem preL_no {kz : Bool} {m n : Nat} {zs : List Int} {x : Nat} (h : (kz && (zs.getLast? == some (x : Int))) = true) : preL kz m n zs (x + 1) = preL kz m n zs x := by
  unfold preL
  rw [List.range_succ, List.filter_append, List.flatMap_append]
  simp only [List.filter_cons, List.filter_nil, h]
  simp
theorem preL_le (kz : Bool) (m n : Nat) (zs : List Int) (x : Nat) : ∀ d, (preL kz m n zs x).length ≤ (preL kz m n zs (x + d)).length
  | 0 => Nat.le_refl _
  | d + 1 => by
    refine Nat.le_trans (preL_le kz m n zs x d) ?_
    rw [show x + (d + 1) = (x + d) + 1 by omega]
    cases h : (kz && (zs.getLast? == some ((x + d : Nat) : Int)))
    · rw [preL_yes h, List.length_append]; omega
    · rw [preL_no h]; omega

/-- Lists come back, their own. -/
def LsR (B : Nat) (Ts : List (List Int)) (e : Ending) (w' : World) : Prop := ∃ v, e = .returned v ∧ TS w' B v Ts

set_option maxHeartbeats 1600000 in
theorem list_zero (kz : Bool) (D K : Int) (b cap : Nat) (zs : List Int) (w : World) (hb : b < w.heap.size) (hc : Cells w b 0 zs) (hl : zs.length ≤ 11) (h1 : 1 ≤ zs.length) (hK : K = (zs.length : Int)) :
    Calls Tryd.prog 45 #[.int .i64 D, .int .i64 K, .bool kz, .slice (some ⟨b, 0, none⟩) zs.length cap] w fun e w' => LsR w.heap.size [zs] e w' ∧ Below w.heap.size w w' := by
  subst hK
  have HOW := Lib.hid (l01Own_some b 0 cap zs w hb hc (by omega))
  obtain ⟨L, HL⟩ : ∃ L, Hid (L = zs.length) := ⟨_, rfl⟩
  rw [← HL.out] at h1 hl HOW
  rw [← HL.out]
  clear hc
  go_enter Tryd.func45, Tryd.ntmps45
  go_wp2_with fail
  refine HOW.out.mono ?_
  rintro e w1 ⟨u, rfl, hO, hb1⟩
  clear HOW
  obtain ⟨g, cp, rfl, hg1, hg2⟩ : ∃ g cp, u = .slice (some ⟨g, 0, none⟩) L cp ∧ w.heap.size ≤ g ∧ g < w1.heap.size := by
    rcases hO.form with ⟨_, h0⟩ | ⟨g, cp, e, e1, e2⟩
    · have := HL.out
      rw [h0, List.length_nil] at this
      omega
    · exact ⟨g, cp, by rw [e, HL.out], e1, e2⟩
  have HO := Lib.hid hO
  have hT : Hid (TS (w1.alloc (.cells #[.slice (some ⟨g, 0, none⟩) L cp] 22)) w.heap.size (.slice (some ⟨w1.heap.size, 0, none⟩) 1 1) [zs]) := by
    refine ⟨[.slice (some ⟨g, 0, none⟩) L cp], ⟨⟨rfl, .inr ⟨w1.heap.size, 1, #[.slice (some ⟨g, 0, none⟩) L cp], rfl, hb1.size, World.alloc_heap_new w1 _, Nat.le_refl _, by unfold maxLen; omega, rfl, rfl⟩⟩, rfl, fun i hi => ?_⟩⟩
    have : i = 0 := by simp at hi; omega
    subst this
    refine ⟨_, rfl, HO.out.below ((Below.refl _ _).alloc (Nat.le_refl _) _), .inr fun e => ?_, fun e => ?_⟩
    · have : g = w1.heap.size := by simpa [Value.ownBlock] using e
      omega
    · have h5 : zs = [] := by simpa [elS] using e
      have := HL.out
      rw [h5, List.length_nil] at this
      omega
  have hB := hb1.alloc hb1.size (.cells #[.slice (some ⟨g, 0, none⟩) L cp] 22)
  clear hO HO hb1
  go_wp2_with fail
  go_ret
  exact ⟨⟨_, rfl, hT.out⟩, hB⟩

set_option maxHeartbeats 3200000 in
theorem list_free (m n : Nat) (D K M : Int) (b cap : Nat) (zs : List Int) (w : World) (hm : 1 ≤ m) (hm62 : m ≤ 62) (hz : false = true → 2 ≤ m) (hb : b < w.heap.size) (hc : Cells w b 0 zs) (hl : zs.length + (n + 1) ≤ 11) (hK : K = (zs.length : Int) + n + 1) (hM : M + 1 = (m : Int))
    (hD : IntKind.i64.wrap (D - 1) = M)
    (hs : (spL false m (n + 1) zs).length ≤ 1048576)
    (IH : ∀ (b' cap' : Nat) (zs' : List Int) (w' : World), b' < w'.heap.size → Cells w' b' 0 zs' → zs'.length = zs.length + 1 → (spL false m n zs').length ≤ 1048576 →
      Calls Tryd.prog 45 #[.int .i64 D, .int .i64 K, .bool false, .slice (some ⟨b', 0, none⟩) zs'.length cap'] w' fun e w'' => LsR w'.heap.size (spL false m n zs') e w'' ∧ Below w'.heap.size w' w'') :
    Calls Tryd.prog 45 #[.int .i64 D, .int .i64 K, .bool false, .slice (some ⟨b, 0, none⟩) zs.length cap] w fun e w' => LsR w.heap.size (spL false m (n + 1) zs) e w' ∧ Below w.heap.size w w' := by
  obtain ⟨i0, hi, hz0, hz1, hz2⟩ := info_parts mk_info
  have HI := Lib.hid hi; have HI0 := Lib.hid hz0; have HI1 := Lib.hid hz1; have HI2 := Lib.hid hz2
  obtain ⟨j0, hj, hy0, hy1, hy2⟩ := info_parts mkS_info
  have HJ := Lib.hid hj; have HJ0 := Lib.hid hy0; have HJ1 := Lib.hid hy1; have HJ2 := Lib.hid hy2
  clear hi hz0 hz1 hz2 hj hy0 hy1 hy2
  have hPA := preL_all false m n zs
  have HTOT : Hid (∀ x, x ≤ m → (preL false m n zs x).length ≤ 1048576) := fun x hx => by
    have h := preL_le false m n zs x (m - x)
    rw [show x + (m - x) = m by omega, hPA] at h
    omega
  have HPOS : Hid (∀ x : Nat, 0 < (spL false m n (zs ++ [(x : Int)])).length) := fun x => sp_pos false m hm hz n _
  have HOW : Hid (∀ wr, Below w.heap.size w wr → Calls Tryd.prog 58 #[.slice (some ⟨b, 0, none⟩) zs.length cap] wr fun e w' => ∃ u, e = .returned u ∧ Own w' wr.heap.size u zs ∧ Below wr.heap.size wr w') := fun wr hbw =>
    l01Own_some b 0 cap zs wr (Nat.lt_of_lt_of_le hb hbw.size) (hc.below hbw hb) (by omega)
  have HCC : Hid (∀ wr, Below w.heap.size w wr → Cells wr b 0 zs) := fun wr hbw => hc.below hbw hb
  have HIH := Lib.hid IH
  have HPA := Lib.hid hPA
  rw [← HPA.out]
  obtain ⟨R, hR⟩ : ∃ R, R = preL false m n zs m := ⟨_, rfl⟩
  rw [← hR]
  have HR := Lib.hid hR
  clear hR
  have hnil : Hid (TS (w.alloc (.cells #[] 22)) w.heap.size (.slice (some ⟨w.heap.size, 0, none⟩) 0 0) (preL false m n zs 0)) := by
    show TS _ _ _ _
    rw [preL_zero]
    exact ⟨[], World.ownsRow_made w #[] 0 (base := w.heap.size) (e := 22) (size := 1) (Nat.le_refl _) (by decide) rfl, rfl, fun i h => by simp at h⟩
  have E0 : Below w.heap.size w (w.alloc (.cells #[] 22)) := (Below.refl _ _).alloc (Nat.le_refl _) _
  have hKL : ¬ (zs.length : Int) = K := by omega
  have hKB : ((zs.length : Int) == K) = false := beq_eq_false_iff_ne.2 hKL
  obtain ⟨L, HL⟩ : ∃ L, Hid (L = zs.length) := ⟨_, rfl⟩
  rw [← HL.out] at hl hKL hKB HOW
  rw [← HL.out]
  have HMm := Lib.hid hM
  have HM0 : 0 ≤ M := by omega
  have HM1 : M ≤ 61 := by omega
  clear IH hPA hs hc hK hM hz
  go_enter Tryd.func45, Tryd.ntmps45
  go_wp2_with fail
  go_loopw [9, 11] (fun u xv wr => ∃ x : Nat, x ≤ m ∧ xv = .int .i64 x ∧ Hid (TS wr w.heap.size u (preL false m n zs x)) ∧ Below w.heap.size w wr) (fun _ xv _ => m - (intOf xv).toNat)
  case atStart => exact ⟨0, Nat.zero_le _, rfl, hnil, E0⟩
  case round =>
    clear hnil E0
    obtain ⟨x, hx, rfl, HO, hB⟩ := hrel
    have hMm := HMm.out
    by_cases hlt : (x : Int) ≤ M
    · have hxm : x < m := by omega
      clear hMm
      have hx0 : (0 : Int) ≤ x := by omega
      have hcond : (false && (zs.getLast? == some (x : Int))) = false := rfl
      have HP := Lib.hid (preL_yes (kz := false) (m := m) (n := n) (zs := zs) (x := x) hcond)
      have hle := HTOT.out (x + 1) (by omega)
      rw [HP.out, List.length_append] at hle
      have hpos := HPOS.out x
      have how := Lib.hid (HOW.out wr hB)
      have s0 := hB.size
      clear hcond
      go_wp2_with fail
      refine how.out.mono ?_
      rintro e w1 ⟨v, rfl, hV, hb1⟩
      clear how
      have s1 := hb1.size
      have HVL := Lib.hid (show zs.length = L from HL.out.symm)
      have hVo : Hid (w1.ownsRow wr.heap.size 2 1 v L (zs.map (Value.int .i64))) := by
        have h := hV
        unfold Own at h
        rw [HVL.out] at h
        exact h
      clear hV
      go_wp2_with (at_builtin; refine wpList_append_own_at _ rfl _ _ 22 rfl wr.heap.size 2 i0 (.int .i64 0) 1 8 Tryd.underlying22 HI.out HI0.out HI1.out HI2.out rfl (by decide) _ _ _ rfl (World.ownsRow.alloc hVo.out _) ⟨w1.heap.size, 0, none⟩ 1 1 [.int .i64 (x : Int)] rfl rfl (cell_one_new _ _ _) (by simp [Value.oneCell']) (by unfold maxLen; omega) (by omega) (by simp; omega) ?_; intro v2 w2 hown2 hgr2 _ hat2)
      have hV2 : Own w2 wr.heap.size v2 (zs ++ [(x : Int)]) := by
        unfold Own
        rw [List.length_append, List.map_append, HVL.out]
        exact hown2
      have hb2 : Below wr.heap.size wr w2 := (hb1.alloc s1 _).grown hgr2 (by simp; omega) (fun k e => (World.ownsRow.lt hVo.out k e).1)
      have s2 := hb2.size
      clear hown2 hgr2 hat2 hVo hb1 s1
      obtain ⟨g2, cp2, rfl, hg2, hg2'⟩ : ∃ g2 cp2, v2 = .slice (some ⟨g2, 0, none⟩) (L + 1) cp2 ∧ wr.heap.size ≤ g2 ∧ g2 < w2.heap.size := by
        rcases hV2.form with ⟨_, h0⟩ | ⟨g, cp, e, e1, e2⟩
        · have := congrArg List.length h0
          simp at this
        · exact ⟨g, cp, by rw [e, List.length_append, HVL.out]; rfl, e1, e2⟩
      have hc2 : Cells w2 g2 0 (zs ++ [(x : Int)]) := by
        rcases hV2.sl with ⟨_, _, _, h0⟩ | ⟨b', off, cap', e', _, hcc⟩
        · have := congrArg List.length h0
          simp at this
        · injection e' with e1 e2 e3
          injection e1 with e1
          injection e1 with e1 e4 e5
          subst e1; subst e4
          exact hcc
      have hih := HIH.out g2 cp2 (zs ++ [(x : Int)]) w2 hg2' hc2 (by rw [List.length_append]; rfl) (by omega)
      rw [show (zs ++ [(x : Int)]).length = L + 1 by rw [List.length_append, HVL.out]; rfl] at hih
      refine hih.mono ?_
      rintro e w4 ⟨⟨v4, rfl, ds, hT4⟩, hb4⟩
      clear hih hc2 hV2
      have s4 := hb4.size
      have hbw4 : Below wr.heap.size wr w4 := hb2.trans (hb4.mono s2)
      obtain ⟨cs, hTo⟩ := HO.out.below hbw4
      obtain ⟨l4, HL4⟩ : ∃ l4, Hid (l4 = (spL false m n (zs ++ [(x : Int)])).length) := ⟨_, rfl⟩
      obtain ⟨l9, HL9⟩ : ∃ l9, Hid (l9 = (preL false m n zs x).length) := ⟨_, rfl⟩
      obtain ⟨g4, cp4, rfl⟩ : ∃ g4 cp4, v4 = .slice (some ⟨g4, 0, none⟩) l4 cp4 := by
        rcases hT4.form with ⟨_, h0⟩ | ⟨g, cp, e, _⟩
        · rw [h0] at hpos; simp at hpos
        · exact ⟨g, cp, by rw [e, HL4.out]⟩
      have HT4 := Lib.hid hT4
      have HTO := Lib.hid hTo
      have hr9 : Hid (w4.ownsRow w.heap.size 22 1 u9 l9 cs) := by
        show World.ownsRow _ _ _ _ _ _ _
        rw [HL9.out]; exact hTo.1
      have hlt9 : ∀ k, u9.ownBlock = some k → k < w2.heap.size := fun k e => by
        obtain ⟨cs', h1, _⟩ := HO.out
        have := (World.ownsRow.lt h1 k e).2
        omega
      have HLT9 := Lib.hid hlt9
      have hdl : ds.length = l4 * 1 := by rw [HL4.out, Nat.mul_one]; exact hT4.2.1
      have hnew : ∀ j u, ds[j]? = some u → w4.cell? ((⟨g4, 0, none⟩ : Addr).add j) = some u := hT4.1.cells (g := g4) rfl
      have hone := hT4.one
      rw [← HL4.out, ← HL9.out] at hle
      have HDL := Lib.hid hdl; have HNEW := Lib.hid hnew; have HONE := Lib.hid hone
      have hB4 := hB.trans (hbw4.mono s0)
      have hh : w.heap.size ≤ w4.heap.size := by omega
      clear hT4 hTo hlt9 hdl hnew hone hb2 hb4 hbw4 HO
      go_wp2_with (at_builtin; refine wpList_append_own_at _ rfl _ _ 67 rfl w.heap.size 22 j0 (.slice none 0 0) 1 24 Tryd.underlying67 HJ.out HJ0.out HJ1.out HJ2.out rfl (by decide) _ _ _ rfl hr9.out ⟨g4, 0, none⟩ l4 cp4 ds rfl HDL.out HNEW.out HONE.out (by unfold maxLen; omega) (by omega) hh ?_; intro v5 w5 hown5 hgr5 _ hat5)
      have HN : Hid (TS w5 w.heap.size v5 (preL false m n zs (x + 1))) := by
        show TS _ _ _ _
        rw [HP.out]
        refine HTO.out.app HT4.out (by omega) HLT9.out ?_ hgr5 hat5
        rw [← HL9.out, ← HL4.out]
        exact hown5
      have hB5 := hB4.grown hgr5 hh (fun k e => (World.ownsRow.lt hr9.out k e).1)
      clear hown5 hgr5 hat5 HTO HT4 hr9 HNEW HONE HLT9 hB4 HP hpos hle hB
      go_wp2_with fail
      go_roundw
      case rel => exact ⟨x + 1, by omega, by go_num, HN, hB5⟩
      case measure => simp [intOf]; omega
    · obtain rfl : x = m := by omega
      clear hMm
      go_wp2_with fail
      go_ret
      exact ⟨⟨_, rfl, by rw [HR.out]; exact HO.out⟩, hB⟩

set_option maxHeartbeats 3200000 in
theorem list_first (m n : Nat) (D K M : Int) (b cap : Nat) (zs : List Int) (w : World) (hm : 1 ≤ m) (hm62 : m ≤ 62) (hz : true = true → 2 ≤ m) (hb : b < w.heap.size) (hc : Cells w b 0 zs) (hl : zs.length + (n + 1) ≤ 11) (hK : K = (zs.length : Int) + n + 1) (hM : M + 1 = (m : Int))
    (hD : M = D) (h0 : zs = [])
    (hs : (spL true m (n + 1) zs).length ≤ 1048576)
    (IH : ∀ (b' cap' : Nat) (zs' : List Int) (w' : World), b' < w'.heap.size → Cells w' b' 0 zs' → zs'.length = zs.length + 1 → (spL true m n zs').length ≤ 1048576 →
      Calls Tryd.prog 45 #[.int .i64 D, .int .i64 K, .bool true, .slice (some ⟨b', 0, none⟩) zs'.length cap'] w' fun e w'' => LsR w'.heap.size (spL true m n zs') e w'' ∧ Below w'.heap.size w' w'') :
    Calls Tryd.prog 45 #[.int .i64 D, .int .i64 K, .bool true, .slice (some ⟨b, 0, none⟩) zs.length cap] w fun e w' => LsR w.heap.size (spL true m (n + 1) zs) e w' ∧ Below w.heap.size w w' := by
  obtain ⟨i0, hi, hz0, hz1, hz2⟩ := info_parts mk_info
  have HI := Lib.hid hi; have HI0 := Lib.hid hz0; have HI1 := Lib.hid hz1; have HI2 := Lib.hid hz2
  obtain ⟨j0, hj, hy0, hy1, hy2⟩ := info_parts mkS_info
  have HJ := Lib.hid hj; have HJ0 := Lib.hid hy0; have HJ1 := Lib.hid hy1; have HJ2 := Lib.hid hy2
  clear hi hz0 hz1 hz2 hj hy0 hy1 hy2
  have hPA := preL_all true m n zs
  have HTOT : Hid (∀ x, x ≤ m → (preL true m n zs x).length ≤ 1048576) := fun x hx => by
    have h := preL_le true m n zs x (m - x)
    rw [show x + (m - x) = m by omega, hPA] at h
    omega
  have HPOS : Hid (∀ x : Nat, 0 < (spL true m n (zs ++ [(x : Int)])).length) := fun x => sp_pos true m hm hz n _
  have HOW : Hid (∀ wr, Below w.heap.size w wr → Calls Tryd.prog 58 #[.slice (some ⟨b, 0, none⟩) zs.length cap] wr fun e w' => ∃ u, e = .returned u ∧ Own w' wr.heap.size u zs ∧ Below wr.heap.size wr w') := fun wr hbw =>
    l01Own_some b 0 cap zs wr (Nat.lt_of_lt_of_le hb hbw.size) (hc.below hbw hb) (by omega)
  have HCC : Hid (∀ wr, Below w.heap.size w wr → Cells wr b 0 zs) := fun wr hbw => hc.below hbw hb
  have HIH := Lib.hid IH
  have HPA := Lib.hid hPA
  rw [← HPA.out]
  obtain ⟨R, hR⟩ : ∃ R, R = preL true m n zs m := ⟨_, rfl⟩
  rw [← hR]
  have HR := Lib.hid hR
  clear hR
  have hnil : Hid (TS (w.alloc (.cells #[] 22)) w.heap.size (.slice (some ⟨w.heap.size, 0, none⟩) 0 0) (preL true m n zs 0)) := by
    show TS _ _ _ _
    rw [preL_zero]
    exact ⟨[], World.ownsRow_made w #[] 0 (base := w.heap.size) (e := 22) (size := 1) (Nat.le_refl _) (by decide) rfl, rfl, fun i h => by simp at h⟩
  have E0 : Below w.heap.size w (w.alloc (.cells #[] 22)) := (Below.refl _ _).alloc (Nat.le_refl _) _
  have hKL : ¬ (zs.length : Int) = K := by omega
  have hKB : ((zs.length : Int) == K) = false := beq_eq_false_iff_ne.2 hKL
  obtain ⟨L, HL⟩ : ∃ L, Hid (L = zs.length) := ⟨_, rfl⟩
  rw [← HL.out] at hl hKL hKB HOW
  rw [← HL.out]
  have HMm := Lib.hid hM
  have HM0 : 0 ≤ M := by omega
  have HM1 : M ≤ 61 := by omega
  subst hD
  have hL0 : ((L : Int) == 0) = true := by rw [HL.out, h0]; rfl
  clear IH hPA hs hc hK hM hz
  go_enter Tryd.func45, Tryd.ntmps45
  go_wp2_with fail
  go_loopw [9, 11] (fun u xv wr => ∃ x : Nat, x ≤ m ∧ xv = .int .i64 x ∧ Hid (TS wr w.heap.size u (preL true m n zs x)) ∧ Below w.heap.size w wr) (fun _ xv _ => m - (intOf xv).toNat)
  case atStart => exact ⟨0, Nat.zero_le _, rfl, hnil, E0⟩
  case round =>
    clear hnil E0
    obtain ⟨x, hx, rfl, HO, hB⟩ := hrel
    have hMm := HMm.out
    by_cases hlt : (x : Int) ≤ M
    · have hxm : x < m := by omega
      clear hMm
      have hx0 : (0 : Int) ≤ x := by omega
      have hcond : (true && (zs.getLast? == some (x : Int))) = false := by rw [h0]; rfl
      have HP := Lib.hid (preL_yes (kz := true) (m := m) (n := n) (zs := zs) (x := x) hcond)
      have hle := HTOT.out (x + 1) (by omega)
      rw [HP.out, List.length_append] at hle
      have hpos := HPOS.out x
      have how := Lib.hid (HOW.out wr hB)
      have s0 := hB.size
      clear hcond
      go_wp2_with fail
      refine how.out.mono ?_
      rintro e w1 ⟨v, rfl, hV, hb1⟩
      clear how
      have s1 := hb1.size
      have HVL := Lib.hid (show zs.length = L from HL.out.symm)
      have hVo : Hid (w1.ownsRow wr.heap.size 2 1 v L (zs.map (Value.int .i64))) := by
        have h := hV
        unfold Own at h
        rw [HVL.out] at h
        exact h
      clear hV
      go_wp2_with (at_builtin; refine wpList_append_own_at _ rfl _ _ 22 rfl wr.heap.size 2 i0 (.int .i64 0) 1 8 Tryd.underlying22 HI.out HI0.out HI1.out HI2.out rfl (by decide) _ _ _ rfl (World.ownsRow.alloc hVo.out _) ⟨w1.heap.size, 0, none⟩ 1 1 [.int .i64 (x : Int)] rfl rfl (cell_one_new _ _ _) (by simp [Value.oneCell']) (by unfold maxLen; omega) (by omega) (by simp; omega) ?_; intro v2 w2 hown2 hgr2 _ hat2)
      have hV2 : Own w2 wr.heap.size v2 (zs ++ [(x : Int)]) := by
        unfold Own
        rw [List.length_append, List.map_append, HVL.out]
        exact hown2
      have hb2 : Below wr.heap.size wr w2 := (hb1.alloc s1 _).grown hgr2 (by simp; omega) (fun k e => (World.ownsRow.lt hVo.out k e).1)
      have s2 := hb2.size
      clear hown2 hgr2 hat2 hVo hb1 s1
      obtain ⟨g2, cp2, rfl, hg2, hg2'⟩ : ∃ g2 cp2, v2 = .slice (some ⟨g2, 0, none⟩) (L + 1) cp2 ∧ wr.heap.size ≤ g2 ∧ g2 < w2.heap.size := by
        rcases hV2.form with ⟨_, h0⟩ | ⟨g, cp, e, e1, e2⟩
        · have := congrArg List.length h0
          simp at this
        · exact ⟨g, cp, by rw [e, List.length_append, HVL.out]; rfl, e1, e2⟩
      have hc2 : Cells w2 g2 0 (zs ++ [(x : Int)]) := by
        rcases hV2.sl with ⟨_, _, _, h0⟩ | ⟨b', off, cap', e', _, hcc⟩
        · have := congrArg List.length h0
          simp at this
        · injection e' with e1 e2 e3
          injection e1 with e1
          injection e1 with e1 e4 e5
          subst e1; subst e4
          exact hcc
      have hih := HIH.out g2 cp2 (zs ++ [(x : Int)]) w2 hg2' hc2 (by rw [List.length_append]; rfl) (by omega)
      rw [show (zs ++ [(x : Int)]).length = L + 1 by rw [List.length_append, HVL.out]; rfl] at hih
      refine hih.mono ?_
      rintro e w4 ⟨⟨v4, rfl, ds, hT4⟩, hb4⟩
      clear hih hc2 hV2
      have s4 := hb4.size
      have hbw4 : Below wr.heap.size wr w4 := hb2.trans (hb4.mono s2)
      obtain ⟨cs, hTo⟩ := HO.out.below hbw4
      obtain ⟨l4, HL4⟩ : ∃ l4, Hid (l4 = (spL true m n (zs ++ [(x : Int)])).length) := ⟨_, rfl⟩
      obtain ⟨l9, HL9⟩ : ∃ l9, Hid (l9 = (preL true m n zs x).length) := ⟨_, rfl⟩
      obtain ⟨g4, cp4, rfl⟩ : ∃ g4 cp4, v4 = .slice (some ⟨g4, 0, none⟩) l4 cp4 := by
        rcases hT4.form with ⟨_, h0⟩ | ⟨g, cp, e, _⟩
        · rw [h0] at hpos; simp at hpos
        · exact ⟨g, cp, by rw [e, HL4.out]⟩
      have HT4 := Lib.hid hT4
      have HTO := Lib.hid hTo
      have hr9 : Hid (w4.ownsRow w.heap.size 22 1 u9 l9 cs) := by
        show World.ownsRow _ _ _ _ _ _ _
        rw [HL9.out]; exact hTo.1
      have hlt9 : ∀ k, u9.ownBlock = some k → k < w2.heap.size := fun k e => by
        obtain ⟨cs', h1, _⟩ := HO.out
        have := (World.ownsRow.lt h1 k e).2
        omega
      have HLT9 := Lib.hid hlt9
      have hdl : ds.length = l4 * 1 := by rw [HL4.out, Nat.mul_one]; exact hT4.2.1
      have hnew : ∀ j u, ds[j]? = some u → w4.cell? ((⟨g4, 0, none⟩ : Addr).add j) = some u := hT4.1.cells (g := g4) rfl
      have hone := hT4.one
      rw [← HL4.out, ← HL9.out] at hle
      have HDL := Lib.hid hdl; have HNEW := Lib.hid hnew; have HONE := Lib.hid hone
      have hB4 := hB.trans (hbw4.mono s0)
      have hh : w.heap.size ≤ w4.heap.size := by omega
      clear hT4 hTo hlt9 hdl hnew hone hb2 hb4 hbw4 HO
      go_wp2_with (at_builtin; refine wpList_append_own_at _ rfl _ _ 67 rfl w.heap.size 22 j0 (.slice none 0 0) 1 24 Tryd.underlying67 HJ.out HJ0.out HJ1.out HJ2.out rfl (by decide) _ _ _ rfl hr9.out ⟨g4, 0, none⟩ l4 cp4 ds rfl HDL.out HNEW.out HONE.out (by unfold maxLen; omega) (by omega) hh ?_; intro v5 w5 hown5 hgr5 _ hat5)
      have HN : Hid (TS w5 w.heap.size v5 (preL true m n zs (x + 1))) := by
        show TS _ _ _ _
        rw [HP.out]
        refine HTO.out.app HT4.out (by omega) HLT9.out ?_ hgr5 hat5
        rw [← HL9.out, ← HL4.out]
        exact hown5
      have hB5 := hB4.grown hgr5 hh (fun k e => (World.ownsRow.lt hr9.out k e).1)
      clear hown5 hgr5 hat5 HTO HT4 hr9 HNEW HONE HLT9 hB4 HP hpos hle hB
      go_wp2_with fail
      go_roundw
      case rel => exact ⟨x + 1, by omega, by go_num, HN, hB5⟩
      case measure => simp [intOf]; omega
    · obtain rfl : x = m := by omega
      clear hMm
      go_wp2_with fail
      go_ret
      exact ⟨⟨_, rfl, by rw [HR.out]; exact HO.out⟩, hB⟩

set_option maxHeartbeats 3200000 in
theorem list_next (m n p : Nat) (D K M : Int) (b cap : Nat) (zs : List Int) (w : World) (hm : 1 ≤ m) (hm62 : m ≤ 62) (hz : true = true → 2 ≤ m) (hb : b < w.heap.size) (hc : Cells w b 0 zs) (hl : zs.length + (n + 1) ≤ 11) (hK : K = (zs.length : Int) + n + 1) (hM : M + 1 = (m : Int))
    (hD : M = D) (hp : zs.length = p + 1) (z : Int) (hzl : el zs p = z)
    (hs : (spL true m (n + 1) zs).length ≤ 1048576)
    (IH : ∀ (b' cap' : Nat) (zs' : List Int) (w' : World), b' < w'.heap.size → Cells w' b' 0 zs' → zs'.length = zs.length + 1 → (spL true m n zs').length ≤ 1048576 →
      Calls Tryd.prog 45 #[.int .i64 D, .int .i64 K, .bool true, .slice (some ⟨b', 0, none⟩) zs'.length cap'] w' fun e w'' => LsR w'.heap.size (spL true m n zs') e w'' ∧ Below w'.heap.size w' w'') :
    Calls Tryd.prog 45 #[.int .i64 D, .int .i64 K, .bool true, .slice (some ⟨b, 0, none⟩) zs.length cap] w fun e w' => LsR w.heap.size (spL true m (n + 1) zs) e w' ∧ Below w.heap.size w w' := by
  obtain ⟨i0, hi, hz0, hz1, hz2⟩ := info_parts mk_info
  have HI := Lib.hid hi; have HI0 := Lib.hid hz0; have HI1 := Lib.hid hz1; have HI2 := Lib.hid hz2
  obtain ⟨j0, hj, hy0, hy1, hy2⟩ := info_parts mkS_info
  have HJ := Lib.hid hj; have HJ0 := Lib.hid hy0; have HJ1 := Lib.hid hy1; have HJ2 := Lib.hid hy2
  clear hi hz0 hz1 hz2 hj hy0 hy1 hy2
  have hPA := preL_all true m n zs
  have HTOT : Hid (∀ x, x ≤ m → (preL true m n zs x).length ≤ 1048576) := fun x hx => by
    have h := preL_le true m n zs x (m - x)
    rw [show x + (m - x) = m by omega, hPA] at h
    omega
  have HPOS : Hid (∀ x : Nat, 0 < (spL true m n (zs ++ [(x : Int)])).length) := fun x => sp_pos true m hm hz n _
  have HOW : Hid (∀ wr, Below w.heap.size w wr → Calls Tryd.prog 58 #[.slice (some ⟨b, 0, none⟩) zs.length cap] wr fun e w' => ∃ u, e = .returned u ∧ Own w' wr.heap.size u zs ∧ Below wr.heap.size wr w') := fun wr hbw =>
    l01Own_some b 0 cap zs wr (Nat.lt_of_lt_of_le hb hbw.size) (hc.below hbw hb) (by omega)
  have HCC : Hid (∀ wr, Below w.heap.size w wr → Cells wr b 0 zs) := fun wr hbw => hc.below hbw hb
  have HIH := Lib.hid IH
  have HPA := Lib.hid hPA
  rw [← HPA.out]
  obtain ⟨R, hR⟩ : ∃ R, R = preL true m n zs m := ⟨_, rfl⟩
  rw [← hR]
  have HR := Lib.hid hR
  clear hR
  have hnil : Hid (TS (w.alloc (.cells #[] 22)) w.heap.size (.slice (some ⟨w.heap.size, 0, none⟩) 0 0) (preL true m n zs 0)) := by
    show TS _ _ _ _
    rw [preL_zero]
    exact ⟨[], World.ownsRow_made w #[] 0 (base := w.heap.size) (e := 22) (size := 1) (Nat.le_refl _) (by decide) rfl, rfl, fun i h => by simp at h⟩
  have E0 : Below w.heap.size w (w.alloc (.cells #[] 22)) := (Below.refl _ _).alloc (Nat.le_refl _) _
  have hKL : ¬ (zs.length : Int) = K := by omega
  have hKB : ((zs.length : Int) == K) = false := beq_eq_false_iff_ne.2 hKL
  obtain ⟨L, HL⟩ : ∃ L, Hid (L = zs.length) := ⟨_, rfl⟩
  rw [← HL.out] at hl hKL hKB HOW
  rw [← HL.out]
  have HMm := Lib.hid hM
  have HM0 : 0 ≤ M := by omega
  have HM1 : M ≤ 61 := by omega
  subst hD
  have hLp : (L : Int) - 1 = (p : Int) := by rw [HL.out, hp]; omega
  have hL0 : ¬ (L : Int) = 0 := by rw [HL.out, hp]; omega
  have hL0b : ((L : Int) == 0) = false := beq_eq_false_iff_ne.2 hL0
  have HLAST : Hid (zs.getLast? = some z) := by
    show _ = _
    rw [List.getLast?_eq_getElem?, hp, Nat.add_sub_cancel, List.getElem?_eq_getElem (by omega), ← hzl, el_lt (by omega)]
  have HPL : Hid (p < zs.length) := by show p < _; omega
  have HZL := Lib.hid hzl
  clear hp hzl
  clear IH hPA hs hc hK hM hz
  go_enter Tryd.func45, Tryd.ntmps45
  go_wp2_with fail
  go_loopw [9, 11] (fun u xv wr => ∃ x : Nat, x ≤ m ∧ xv = .int .i64 x ∧ Hid (TS wr w.heap.size u (preL true m n zs x)) ∧ Below w.heap.size w wr) (fun _ xv _ => m - (intOf xv).toNat)
  case atStart => exact ⟨0, Nat.zero_le _, rfl, hnil, E0⟩
  case round =>
    clear hnil E0
    obtain ⟨x, hx, rfl, HO, hB⟩ := hrel
    have hMm := HMm.out
    by_cases hlt : (x : Int) ≤ M
    · have hxm : x < m := by omega
      clear hMm
      have hx0 : (0 : Int) ≤ x := by omega
      have hcell : wr.cell? ⟨b, p, none⟩ = some (.int .i64 z) := by
        have h := HCC.out wr hB p HPL.out
        rw [Nat.zero_add, HZL.out] at h
        exact h
      by_cases hzx : z = (x : Int)
      · have hcond : (true && (zs.getLast? == some (x : Int))) = true := by rw [HLAST.out, hzx]; simp
        have HP := Lib.hid (preL_no (kz := true) (m := m) (n := n) (zs := zs) (x := x) hcond)
        have HN : Hid (TS wr w.heap.size u9 (preL true m n zs (x + 1))) := by show TS _ _ _ _; rw [HP.out]; exact HO.out
        clear hcond HP HO
        subst hzx
        go_wp2_with fail
        go_roundw
        case rel => exact ⟨x + 1, by omega, by go_num, HN, hB⟩
        case measure => simp [intOf]; omega
      · have hcond : (true && (zs.getLast? == some (x : Int))) = false := by rw [HLAST.out]; simpa using hzx
        have hzb : (z != (x : Int)) = true := by simpa using hzx
        have HP := Lib.hid (preL_yes (kz := true) (m := m) (n := n) (zs := zs) (x := x) hcond)
        have hle := HTOT.out (x + 1) (by omega)
        rw [HP.out, List.length_append] at hle
        have hpos := HPOS.out x
        have how := Lib.hid (HOW.out wr hB)
        have s0 := hB.size
        clear hcond
        go_wp2_with fail
        refine how.out.mono ?_
        rintro e w1 ⟨v, rfl, hV, hb1⟩
        clear how
        have s1 := hb1.size
        have HVL := Lib.hid (show zs.length = L from HL.out.symm)
        have hVo : Hid (w1.ownsRow wr.heap.size 2 1 v L (zs.map (Value.int .i64))) := by
          have h := hV
          unfold Own at h
          rw [HVL.out] at h
          exact h
        clear hV
        go_wp2_with (at_builtin; refine wpList_append_own_at _ rfl _ _ 22 rfl wr.heap.size 2 i0 (.int .i64 0) 1 8 Tryd.underlying22 HI.out HI0.out HI1.out HI2.out rfl (by decide) _ _ _ rfl (World.ownsRow.alloc hVo.out _) ⟨w1.heap.size, 0, none⟩ 1 1 [.int .i64 (x : Int)] rfl rfl (cell_one_new _ _ _) (by simp [Value.oneCell']) (by unfold maxLen; omega) (by omega) (by simp; omega) ?_; intro v2 w2 hown2 hgr2 _ hat2)
        have hV2 : Own w2 wr.heap.size v2 (zs ++ [(x : Int)]) := by
          unfold Own
          rw [List.length_append, List.map_append, HVL.out]
          exact hown2
        have hb2 : Below wr.heap.size wr w2 := (hb1.alloc s1 _).grown hgr2 (by simp; omega) (fun k e => (World.ownsRow.lt hVo.out k e).1)
        have s2 := hb2.size
        clear hown2 hgr2 hat2 hVo hb1 s1
        obtain ⟨g2, cp2, rfl, hg2, hg2'⟩ : ∃ g2 cp2, v2 = .slice (some ⟨g2, 0, none⟩) (L + 1) cp2 ∧ wr.heap.size ≤ g2 ∧ g2 < w2.heap.size := by
          rcases hV2.form with ⟨_, h0⟩ | ⟨g, cp, e, e1, e2⟩
          · have := congrArg List.length h0
            simp at this
          · exact ⟨g, cp, by rw [e, List.length_append, HVL.out]; rfl, e1, e2⟩
        have hc2 : Cells w2 g2 0 (zs ++ [(x : Int)]) := by
          rcases hV2.sl with ⟨_, _, _, h0⟩ | ⟨b', off, cap', e', _, hcc⟩
          · have := congrArg List.length h0
            simp at this
          · injection e' with e1 e2 e3
            injection e1 with e1
            injection e1 with e1 e4 e5
            subst e1; subst e4
            exact hcc
        have hih := HIH.out g2 cp2 (zs ++ [(x : Int)]) w2 hg2' hc2 (by rw [List.length_append]; rfl) (by omega)
        rw [show (zs ++ [(x : Int)]).length = L + 1 by rw [List.length_append, HVL.out]; rfl] at hih
        refine hih.mono ?_
        rintro e w4 ⟨⟨v4, rfl, ds, hT4⟩, hb4⟩
        clear hih hc2 hV2
        have s4 := hb4.size
        have hbw4 : Below wr.heap.size wr w4 := hb2.trans (hb4.mono s2)
        obtain ⟨cs, hTo⟩ := HO.out.below hbw4
        obtain ⟨l4, HL4⟩ : ∃ l4, Hid (l4 = (spL true m n (zs ++ [(x : Int)])).length) := ⟨_, rfl⟩
        obtain ⟨l9, HL9⟩ : ∃ l9, Hid (l9 = (preL true m n zs x).length) := ⟨_, rfl⟩
        obtain ⟨g4, cp4, rfl⟩ : ∃ g4 cp4, v4 = .slice (some ⟨g4, 0, none⟩) l4 cp4 := by
          rcases hT4.form with ⟨_, h0⟩ | ⟨g, cp, e, _⟩
          · rw [h0] at hpos; simp at hpos
          · exact ⟨g, cp, by rw [e, HL4.out]⟩
        have HT4 := Lib.hid hT4
        have HTO := Lib.hid hTo
        have hr9 : Hid (w4.ownsRow w.heap.size 22 1 u9 l9 cs) := by
          show World.ownsRow _ _ _ _ _ _ _
          rw [HL9.out]; exact hTo.1
        have hlt9 : ∀ k, u9.ownBlock = some k → k < w2.heap.size := fun k e => by
          obtain ⟨cs', h1, _⟩ := HO.out
          have := (World.ownsRow.lt h1 k e).2
          omega
        have HLT9 := Lib.hid hlt9
        have hdl : ds.length = l4 * 1 := by rw [HL4.out, Nat.mul_one]; exact hT4.2.1
        have hnew : ∀ j u, ds[j]? = some u → w4.cell? ((⟨g4, 0, none⟩ : Addr).add j) = some u := hT4.1.cells (g := g4) rfl
        have hone := hT4.one
        rw [← HL4.out, ← HL9.out] at hle
        have HDL := Lib.hid hdl; have HNEW := Lib.hid hnew; have HONE := Lib.hid hone
        have hB4 := hB.trans (hbw4.mono s0)
        have hh : w.heap.size ≤ w4.heap.size := by omega
        clear hT4 hTo hlt9 hdl hnew hone hb2 hb4 hbw4 HO
        go_wp2_with (at_builtin; refine wpList_append_own_at _ rfl _ _ 67 rfl w.heap.size 22 j0 (.slice none 0 0) 1 24 Tryd.underlying67 HJ.out HJ0.out HJ1.out HJ2.out rfl (by decide) _ _ _ rfl hr9.out ⟨g4, 0, none⟩ l4 cp4 ds rfl HDL.out HNEW.out HONE.out (by unfold maxLen; omega) (by omega) hh ?_; intro v5 w5 hown5 hgr5 _ hat5)
        have HN : Hid (TS w5 w.heap.size v5 (preL true m n zs (x + 1))) := by
          show TS _ _ _ _
          rw [HP.out]
          refine HTO.out.app HT4.out (by omega) HLT9.out ?_ hgr5 hat5
          rw [← HL9.out, ← HL4.out]
          exact hown5
        have hB5 := hB4.grown hgr5 hh (fun k e => (World.ownsRow.lt hr9.out k e).1)
        clear hown5 hgr5 hat5 HTO HT4 hr9 HNEW HONE HLT9 hB4 HP hpos hle hB
        go_wp2_with fail
        go_roundw
        case rel => exact ⟨x + 1, by omega, by go_num, HN, hB5⟩
        case measure => simp [intOf]; omega
    · obtain rfl : x = m := by omega
      clear hMm
      go_wp2_with fail
      go_ret
      exact ⟨⟨_, rfl, by rw [HR.out]; exact HO.out⟩, hB⟩
end Go.Proofs.YtkflcjhoghiffaaDoor
