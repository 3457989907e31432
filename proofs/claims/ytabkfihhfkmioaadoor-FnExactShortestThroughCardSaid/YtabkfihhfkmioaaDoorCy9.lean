/-
  spec.l02Around: the length and the number of the cycles with an edge, exactly. (gen/mk_cy9.py, of Ar7)
-/
import Derived.Test.YtabkfihhfkmioaaDoorAr7
import Derived.Test.YtabkfihhfkmioaaDoorCx9
namespace Go.Proofs.YtabkfihhfkmioaaDoor
set_option maxRecDepth 100000
open Go.RowKit

theorem lm_into {R R' : Nat → Nat → Bool} {n v : Nat} (hR : ∀ a b, b ≠ v → R a b = R' a b) : ∀ d u, lev R n v d u = lev R' n v d u ∧ met R n v d u = met R' n v d u
  | 0, _ => ⟨rfl, rfl⟩
  | d + 1, u => by
    have ih := lm_into (n := n) hR d
    have hl : lev R n v (d + 1) u = lev R' n v (d + 1) u := by
      by_cases e : u = v
      · subst e
        have hm : ∀ Q : Nat → Nat → Bool, met Q n u d u = true := fun Q => met_iff.2 ⟨0, Nat.zero_le _, by rw [lev_zero]; simp⟩
        rw [lev_succ, lev_succ, hm, hm]; simp
      · rw [lev_succ, lev_succ, (ih u).2]
        congr 1
        rw [Bool.eq_iff_iff, List.any_eq_true, List.any_eq_true]
        constructor
        · rintro ⟨x, hx, h⟩; exact ⟨x, hx, by rw [← (ih x).1, ← hR x u e]; exact h⟩
        · rintro ⟨x, hx, h⟩; exact ⟨x, hx, by rw [(ih x).1, hR x u e]; exact h⟩
    exact ⟨hl, by rw [met_succ, met_succ, (ih u).2, hl]⟩
/-- The model's distances without an edge are the program's. -/
theorem dsE_all {zs : List Int} {v e y : Nat} (hy : y < zs.length) : el (dsE zs v e) y = cyD zs v (2 ^ e) y := by
  rw [dsE_at hy]
  unfold cyD
  have h : (fun d => lev (Re zs v e) zs.length v d y) = fun d => lev (Rw zs v (2 ^ e)) zs.length v d y := by
    funext d
    refine (lm_into (fun a b hb => ?_) d y).1
    unfold Re Rw
    have h1 : (b == v) = false := by rw [beq_eq_false_iff_ne]; exact hb
    rw [h1, Nat.testBit_two_pow]
    by_cases e2 : b = e
    · subst e2; simp
    · have : (b == e) = false := by rw [beq_eq_false_iff_ne]; exact e2
      have h3 : decide (e = b) = false := decide_eq_false fun e3 => e2 e3.symm
      rw [this, h3]; simp
  unfold dOf
  rw [h]
theorem cyD_ne1 {zs : List Int} {v e : Nat} (hv : v < zs.length) : cyD zs v (2 ^ e) e ≠ 1 := fun h => by
  have hd := (cyD_lev (k := 1) hv).2 (by rw [h]; rfl)
  obtain ⟨_, _, x, _, hx, hR⟩ := lev_succ_iff.1 hd
  rw [lev_zero] at hx
  obtain rfl : x = v := by simpa using hx
  unfold Rw at hR
  rw [show ((2 : Nat) ^ e).testBit e = true by simp] at hR
  simp at hR

/-- The first n values of a function. -/
def fnW (g : Nat → Int) (n : Nat) : List Int := (List.range n).map g
theorem fnW_length (g : Nat → Int) (n : Nat) : (fnW g n).length = n := by simp [fnW]
theorem fnW_at (g : Nat → Int) {n i : Nat} (h : i < n) : el (fnW g n) i = g i := by rw [el_lt (by rw [fnW_length]; exact h)]; simp [fnW]
theorem fnW_congr {f g : Nat → Int} {n : Nat} (h : ∀ i, i < n → f i = g i) : fnW f n = fnW g n := List.map_congr_left fun i hi => h i (List.mem_range.1 hi)
theorem fnW_set (g : Nat → Int) (n y : Nat) (v : Int) : (fnW g n).set y v = fnW (fun j => if j = y then v else g j) n := by
  refine ext_el (by rw [List.length_set, fnW_length, fnW_length]) fun i hi => ?_
  rw [List.length_set, fnW_length] at hi
  rw [fnW_at _ hi]
  by_cases e : i = y
  · rw [e, elSet_eq (by rw [fnW_length]; omega), if_pos rfl]
  · rw [elSet_ne e, fnW_at _ hi, if_neg e]
theorem fnW_one (v n : Nat) : (List.replicate n (0 : Int)).set v 1 = fnW (fun j => if j = v then 1 else 0) n := by
  have h : List.replicate n (0 : Int) = fnW (fun _ => 0) n := by
    refine (List.eq_replicate_iff.2 ⟨by rw [fnW_length], fun x hx => ?_⟩).symm
    simp [fnW] at hx
    exact hx.2.symm ▸ rfl
  rw [h, fnW_set]
/-- What the model has while the vertices of the level d send, those below x done. -/
def mdW (zs : List Int) (D : Nat → Int) (a d x j : Nat) : Int := if D j = ((d + 1 : Nat) : Int) then sumW (wyV zs D a) 0 (frL zs D d x j) else wyD zs D a d j
def mxW (zs : List Int) (D : Nat → Int) (a d x y j : Nat) : Int := if j < y then mdW zs D a d (x + 1) j else mdW zs D a d x j
theorem mdW_zero (zs : List Int) (D : Nat → Int) (a d : Nat) : mdW zs D a d 0 = wyD zs D a d := by
  funext j
  unfold mdW
  by_cases h : D j = ((d + 1 : Nat) : Int)
  · rw [if_pos h, wyD_far h]; rfl
  · rw [if_neg h]
theorem mxW_zero (zs : List Int) (D : Nat → Int) (a d x : Nat) : mxW zs D a d x 0 = mdW zs D a d x := by funext j; unfold mxW; rw [if_neg (by omega)]
theorem mdW_no {zs : List Int} {D : Nat → Int} {a d x j : Nat} (h : ¬ (D x = (d : Int) ∧ bt (el zs x) j = true ∧ D j = ((d + 1 : Nat) : Int))) : mdW zs D a d (x + 1) j = mdW zs D a d x j := by
  unfold mdW
  by_cases e : D j = ((d + 1 : Nat) : Int)
  · rw [if_pos e, if_pos e, frL_snoc, if_neg]
    rw [Bool.and_eq_true, beq_iff_eq]
    exact fun h2 => h ⟨h2.1, h2.2, e⟩
  · rw [if_neg e, if_neg e]
theorem mdW_yes {zs : List Int} {D : Nat → Int} {a d x j : Nat} (h1 : D x = (d : Int)) (h2 : bt (el zs x) j = true) (h3 : D j = ((d + 1 : Nat) : Int)) : mdW zs D a d (x + 1) j = IntKind.i64.wrap (mdW zs D a d x j + wyV zs D a x) := by
  unfold mdW
  rw [if_pos h3, if_pos h3, frL_snoc, if_pos (by rw [h1, h2]; simp), sumW_snoc]
theorem mxW_step {zs : List Int} {D : Nat → Int} {a d x y : Nat} (h : mdW zs D a d (x + 1) y = mdW zs D a d x y) : mxW zs D a d x (y + 1) = mxW zs D a d x y := by
  funext j
  unfold mxW
  by_cases e : j = y
  · subst e; rw [if_pos (by omega), if_neg (by omega), h]
  · by_cases e2 : j < y
    · rw [if_pos (by omega), if_pos e2]
    · rw [if_neg (by omega), if_neg e2]
theorem mxW_out {zs : List Int} {D : Nat → Int} {a d x y : Nat} (h : D x ≠ (d : Int)) : mxW zs D a d x y = mdW zs D a d (x + 1) := by
  funext j
  unfold mxW
  rw [mdW_no fun h2 => h h2.1]
  simp
theorem mxW_set {zs : List Int} {D : Nat → Int} {a d x y n : Nat} : (fnW (mxW zs D a d x y) n).set y (mdW zs D a d (x + 1) y) = fnW (mxW zs D a d x (y + 1)) n := by
  rw [fnW_set]
  congr 1
  funext j
  unfold mxW
  by_cases e : j = y
  · subst e; rw [if_pos rfl, if_pos (by omega)]
  · rw [if_neg e]
    by_cases e2 : j < y
    · rw [if_pos e2, if_pos (by omega)]
    · rw [if_neg e2, if_neg (by omega)]
theorem mxW_same (zs : List Int) (D : Nat → Int) (a d x y : Nat) : mxW zs D a d x y y = mdW zs D a d x y := by unfold mxW; rw [if_neg (by omega)]
theorem mxW_from {zs : List Int} {D : Nat → Int} {a d x y : Nat} (h : D x = (d : Int)) : mxW zs D a d x y x = wyV zs D a x := by
  have h0 : ∀ m, mdW zs D a d m x = wyV zs D a x := fun m => by unfold mdW; rw [if_neg (by omega), wyD_at h]
  unfold mxW
  rw [h0, h0]; simp
theorem mxW_end (zs : List Int) (D : Nat → Int) (a d x n : Nat) : fnW (mxW zs D a d x n) n = fnW (mdW zs D a d (x + 1)) n := fnW_congr fun i hi => by unfold mxW; rw [if_pos hi]
theorem mdW_end (zs : List Int) (D : Nat → Int) (a d : Nat) : mdW zs D a d zs.length = wyD zs D a (d + 1) := by
  funext j
  unfold mdW
  by_cases h : D j = ((d + 1 : Nat) : Int)
  · rw [if_pos h, wyD_at h, wyV_succ h]
  · rw [if_neg h, wyD_same h]

/-- The number of cycles that the model tells. -/
def awN (zs : List Int) (a b : Nat) : Int := if 0 ≤ cyD zs a (2 ^ b) b then wyV zs (cyD zs a (2 ^ b)) a b else 0

set_option maxHeartbeats 3200000 in
theorem aroundW_some (b off cap : Nat) (zs : List Int) (v e : Nat) (w : World) (hb : b < w.heap.size) (hc : Cells w b off zs) (hg : isG zs.length zs = true) (hv : v < zs.length) (he : e < zs.length) :
    Calls Tryd.prog 87 #[.agg #[.int .i64 zs.length, .slice (some ⟨b, off, none⟩) zs.length cap], .int .i64 v, .int .i64 e] w fun ed w' => ed = .returned (.tuple #[.int .i64 (arL zs v e), .int .i64 (awN zs v e)]) ∧ Below w.heap.size w w' := by
  obtain ⟨p1, p2, -, -, -⟩ := isG_parts hg
  have hm62 : zs.length ≤ 62 := by omega
  have D0 : Below w.heap.size w (w.alloc (.cells #[.int .i64 zs.length, .slice (some ⟨b, off, none⟩) zs.length cap] 26)) := (Below.refl _ _).alloc (Nat.le_refl _) _
  have hfr := fromE_some b off cap zs v e _ (Nat.lt_of_lt_of_le hb D0.size) (hc.below D0 hb) hg hv
  have HG0 := Lib.hid (GBox.new (n := zs.length) (cap := cap) hb hc)
  have HZ := Lib.hid (isG_row_ok hg)
  have HDE : Hid (el (dsE zs v e) e = cyD zs v (2 ^ e) e) := dsE_end hv he
  have HDD : Hid (∀ y, y < zs.length → el (dsE zs v e) y = cyD zs v (2 ^ e) y) := fun y hy => dsE_all hy
  have HDV : Hid (∀ y, cyD zs v (2 ^ e) y = 0 ↔ y = v) := fun y => cyD_zero hv y
  have HN1 : Hid (cyD zs v (2 ^ e) e ≠ 1) := cyD_ne1 hv
  have HAN0 : Hid (awN zs v e = if 0 ≤ cyD zs v (2 ^ e) e then wyV zs (cyD zs v (2 ^ e)) v e else 0) := rfl
  have HDB : Hid (∀ y, y < zs.length → -1 ≤ el (dsE zs v e) y ∧ el (dsE zs v e) y < zs.length) := fun y hy => by
    rw [dsE_at hy]; exact dOf_bd hv
  have HLN := Lib.hid (dsE_length zs v e)
  have hAR : Hid (arL zs v e = if 0 ≤ el (dsE zs v e) e then el (dsE zs v e) e + 1 else 0) := by show _ = _; rw [HDE.out]; rfl
  obtain ⟨R, hR⟩ : ∃ R, R = arL zs v e := ⟨_, rfl⟩
  rw [← hR] at hAR ⊢
  obtain ⟨AN, hANN⟩ : ∃ AN, AN = awN zs v e := ⟨_, rfl⟩
  rw [← hANN] at HAN0 ⊢
  clear hANN
  have HR1 : Hid (el (dsE zs v e) e < 0 → R = 0) := fun h => by rw [hAR.out, if_neg (by omega)]
  have HR2 : Hid (0 ≤ el (dsE zs v e) e → R = el (dsE zs v e) e + 1) := fun h => by rw [hAR.out, if_pos h]
  clear hR
  rw [← HDD.out e he] at HAN0 HN1
  generalize hDc : cyD zs v (2 ^ e) = D at *
  clear hDc
  generalize dsE zs v e = Dl at *
  have HD0 := Lib.hid D0
  have HXX : Hid (∀ x, x < zs.length → bt (el zs x) x = false) := fun x hx => ((isG_iff.1 hg).2.2.2.1 x hx).2.2
  clear hc hg HDE hAR D0
  go_enter Tryd.func87, Tryd.ntmps87
  go_wp2_with fail
  refine hfr.mono ?_
  rintro ed w1 ⟨u, rfl, hO, hb1⟩
  obtain ⟨gd, cd, rfl, hg1, hg2⟩ := own_some9 hO HLN.out (by omega)
  have HO := Lib.hid hO
  have G1 := Lib.hid (HG0.out.below (hb1.mono (by simp)))
  have HB1 := Lib.hid (HD0.out.trans (hb1.mono HD0.out.size))
  have s1 : w.heap.size + 1 ≤ w1.heap.size := by have := hb1.size; simpa using this
  have hce := own_cells9 hO HLN.out e (by rw [HLN.out]; exact he)
  rw [Nat.zero_add] at hce
  have he0 : (0 : Int) ≤ e := by omega
  have hel : (e : Int) < zs.length := by omega
  have hv0 : (0 : Int) ≤ v := by omega
  have hvl : (v : Int) < zs.length := by omega
  obtain ⟨hdb0, hdb1⟩ := HDB.out e he
  obtain ⟨de, hde⟩ : ∃ de, de = el Dl e := ⟨_, rfl⟩
  rw [← hde] at hce hdb0 hdb1 HR1 HR2
  have HDEE := Lib.hid hde
  clear hO hb1 hfr HG0 hde
  by_cases hneg : de < 0
  · have HR := Lib.hid (HR1.out hneg)
    have HA0 : Hid (AN = 0) := by show _ = _; rw [HAN0.out, if_neg (by rw [← HDEE.out]; omega)]
    clear HR1 HR2
    go_wp2
    go_ret2
    exact ⟨by rw [HR.out, HA0.out]; rfl, HB1.out⟩
  · have HR := Lib.hid (HR2.out (by omega))
    have HA0 : Hid (AN = wyV zs D v e) := by show _ = _; rw [HAN0.out, if_pos (by rw [← HDEE.out]; omega)]
    clear HR1 HR2
    have HDe : Hid (D e = de) := (HDD.out e he).symm.trans HDEE.out.symm
    have HL0 : Hid ((List.replicate zs.length (0 : Int)).set v 1 = fnW (wyD zs D v 0) zs.length) := by
      show _ = _
      rw [fnW_one]
      exact fnW_congr fun i _ => (wyD_zero HDV.out i).symm
    have b0 := G1.out.b0
    have b1 := G1.out.b1
    have hwr : IntKind.i64.wrap (de + 1) = de + 1 := IntWalk.i64_in _ (by omega)
    have hmk := run_mkInts zs.length (by omega) w1
    obtain ⟨Wz, hWz⟩ : ∃ Wz, Wz = w1.alloc (.cells ((intsA (List.replicate zs.length 0)).setIfInBounds v (.int .i64 1)) 2) := ⟨_, rfl⟩
    have K1 : Blk (w1.alloc (.cells (intsA (List.replicate zs.length 0)) 2)) w1.heap.size (List.replicate zs.length 0) := Blk.new w1 (List.replicate zs.length 0)
    have K2 : Hid (Blk Wz w1.heap.size ((List.replicate zs.length 0).set v 1)) := by
      show Blk _ _ _
      have h := Blk.new w1 ((List.replicate zs.length (0 : Int)).set v 1)
      have ha : intsA ((List.replicate zs.length (0 : Int)).set v 1) = (intsA (List.replicate zs.length 0)).setIfInBounds v (.int .i64 1) := by
        refine Array.ext' ?_
        simp [intsA, List.map_set]
      rw [ha] at h
      rw [hWz]; exact h
    have Bz : Hid (Below w1.heap.size w1 Wz) := by
      show Below _ _ _
      rw [hWz]; exact (Below.refl _ _).alloc (Nat.le_refl _) _
    have kc := K1.cell (show v < (List.replicate zs.length (0 : Int)).length by rw [List.length_replicate]; exact hv)
    have kf := K1.frozen v
    clear K1
    go_wp2_with fail
    rw [← hWz]
    clear hWz kc kf hmk b0 b1 hce
    have HFX : Hid (∀ W, Below w1.heap.size w1 W → ∀ x : Nat, x < zs.length → W.cell? ⟨gd, x, none⟩ = some (.int .i64 (el Dl x)) ∧ W.cell? ⟨w.heap.size, 0, none⟩ = some (.int .i64 zs.length) ∧ W.cell? ⟨w.heap.size, 1, none⟩ = some (.slice (some ⟨b, off, none⟩) zs.length cap) ∧ W.cell? ⟨b, off + x, none⟩ = some (.int .i64 (el zs x))) := fun W hW x hx => by
      have h1 := own_cells9 (HO.out.below hW) HLN.out x (by rw [HLN.out]; exact hx)
      rw [Nat.zero_add] at h1
      have hGW := G1.out.below (hW.mono s1)
      exact ⟨h1, hGW.b0, hGW.b1, hGW.cells x hx⟩
    clear HO G1 hg1
    go_loopw [10] (fun d wr => ∃ (dn : Nat) (L : List Int), (dn : Int) ≤ de ∧ d = .int .i64 dn ∧ L.length = zs.length ∧ Hid (L = fnW (wyD zs D v dn) zs.length) ∧ Hid (Blk wr w1.heap.size L) ∧ Below w1.heap.size w1 wr) (fun d _ => (de + 1 - intOf d).toNat)
    case atStart => exact ⟨0, _, by omega, rfl, by rw [List.length_set, List.length_replicate], HL0, K2, Bz.out⟩
    case round =>
      clear K2 Bz
      obtain ⟨dn, L, hdn, rfl, hLl, HLL, HK, hE⟩ := hrel
      obtain ⟨c0, b0, b1, -⟩ := HFX.out _ hE e he
      rw [← HDEE.out] at c0
      by_cases hlt : (dn : Int) < de
      · have hd0 : (0 : Int) ≤ dn := by omega
        have hwd : IntKind.i64.wrap ((dn : Int) + 1) = (dn : Int) + 1 := IntWalk.i64_in _ (by omega)
        go_wp2_with fail
        clear c0 b0 b1
        obtain ⟨wo, rfl⟩ : ∃ wo : World, wo = wr := ⟨_, rfl⟩
        go_loopw [11] (fun t wr => ∃ (x : Nat) (L : List Int), x ≤ zs.length ∧ t = .int .i64 x ∧ L.length = zs.length ∧ Hid (L = fnW (mdW zs D v dn x) zs.length) ∧ Hid (Blk wr w1.heap.size L) ∧ Below w1.heap.size w1 wr) (fun t _ => zs.length - (intOf t).toNat)
        case atStart => exact ⟨0, L, Nat.zero_le _, rfl, hLl, by show _ = _; rw [mdW_zero]; exact HLL.out, HK, hE⟩
        case round =>
          clear HK hE hLl HLL
          obtain ⟨x, L, hx, rfl, hLl, HLL, HK, hE⟩ := hrel
          obtain ⟨-, b0, b1, -⟩ := HFX.out _ hE e he
          by_cases hxl : (x : Int) < zs.length
          · have hxn : x < zs.length := by omega
            have hx0 : (0 : Int) ≤ x := by omega
            go_wp2_with fail
            clear b0 b1
            obtain ⟨wp, rfl⟩ : ∃ wp : World, wp = wr := ⟨_, rfl⟩
            go_loopw [12] (fun t wr => ∃ (y : Nat) (L : List Int), y ≤ zs.length ∧ t = .int .i64 y ∧ L.length = zs.length ∧ Hid (L = fnW (mxW zs D v dn x y) zs.length) ∧ Hid (Blk wr w1.heap.size L) ∧ Below w1.heap.size w1 wr) (fun t _ => zs.length - (intOf t).toNat)
            case atStart => exact ⟨0, L, Nat.zero_le _, rfl, hLl, by show _ = _; rw [mxW_zero]; exact HLL.out, HK, hE⟩
            case round =>
              clear HK hE hLl HLL
              obtain ⟨y, L, hy, rfl, hLl, HLL, HK, hE⟩ := hrel
              obtain ⟨cx, b0, b1, rx⟩ := HFX.out _ hE x hxn
              obtain ⟨dx, hdx⟩ : ∃ dx, dx = el Dl x := ⟨_, rfl⟩
              rw [← hdx] at cx
              have HDX : Hid (D x = dx) := (HDD.out x hxn).symm.trans hdx.symm
              clear hdx
              by_cases hyl : (y : Int) < zs.length
              · have hyn : y < zs.length := by omega
                have hy0 : (0 : Int) ≤ y := by omega
                have hy62 : (y : Int) ≤ 61 := by omega
                obtain ⟨cy, -, -, -⟩ := HFX.out _ hE y hyn
                obtain ⟨dy, hdy⟩ : ∃ dy, dy = el Dl y := ⟨_, rfl⟩
                rw [← hdy] at cy
                have HDY : Hid (D y = dy) := (HDD.out y hyn).symm.trans hdy.symm
                clear hdy
                obtain ⟨hb0, hb1⟩ := HZ.out x hxn
                have bit := shr_bit (el zs x) y hb0 hb1
                have k0 := HK.out.cell (show x < L.length by omega)
                have k1 := HK.out.cell (show y < L.length by omega)
                have f1 := HK.out.frozen y
                obtain ⟨lx, hlx⟩ : ∃ lx, lx = el L x := ⟨_, rfl⟩
                obtain ⟨ly, hly⟩ : ∃ ly, ly = el L y := ⟨_, rfl⟩
                rw [← hlx] at k0
                rw [← hly] at k1
                obtain ⟨sv, hsv⟩ : ∃ sv, IntKind.i64.wrap (ly + lx) = sv := ⟨_, rfl⟩
                have HSV : Hid (D x = (dn : Int) → bt (el zs x) y = true → D y = ((dn + 1 : Nat) : Int) → L.set y sv = fnW (mxW zs D v dn x (y + 1)) zs.length) := fun q1 q2 q3 => by
                  have e1 : lx = wyV zs D v x := by rw [hlx, HLL.out, fnW_at _ hxn, mxW_from q1]
                  have e2 : ly = mdW zs D v dn x y := by rw [hly, HLL.out, fnW_at _ hyn, mxW_same]
                  rw [← hsv, e1, e2, HLL.out, ← mdW_yes q1 q2 q3, mxW_set]
                have HKS : Hid (Blk (wr.setCell ⟨w1.heap.size, y, none⟩ (.int .i64 sv)) w1.heap.size (L.set y sv)) := HK.out.set y sv
                have hES := Lib.hid (hE.setCell (p := ⟨w1.heap.size, y, none⟩) (by simp) (.int .i64 sv))
                have HKD : Hid (Blk (wr.setCell ⟨w1.heap.size, y, none⟩ (.int .i64 sv)).drew w1.heap.size (L.set y sv)) := HKS.out
                have HED := Lib.hid hES.out.drew
                have hLS : Hid ((L.set y sv).length = zs.length) := by show _ = _; rw [List.length_set]; exact hLl
                have HE := Lib.hid hE
                have hanew0 : x ≠ y → (wr.setCell ⟨w1.heap.size, y, none⟩ (.int .i64 sv)).drew.cell? ⟨w1.heap.size, x, none⟩ = some (.int .i64 lx) := fun hne => by
                  have h := HKS.out.cell (show x < (L.set y sv).length by rw [List.length_set]; omega)
                  rw [elSet_ne hne, ← hlx] at h
                  exact h
                have HAN := Lib.hid hanew0
                clear hlx hly hE hb0 hb1 hanew0
                cases hq1 : (dx == (dn : Int)) with
                | false =>
                  have HLN : Hid (L = fnW (mdW zs D v dn (x + 1)) zs.length) := by
                    show _ = _
                    rw [HLL.out, mxW_out fun e => by rw [HDX.out] at e; rw [e] at hq1; simp at hq1]
                  clear bit HKS hES hLS HKD HED
                  go_wp2_with fail
                  go_roundw
                  case rel => exact ⟨x + 1, L, by omega, by go_num, hLl, HLN, HK, HE.out⟩
                  case measure => simp [intOf]; omega
                | true =>
                  cases hbt : bt (el zs x) y with
                  | false =>
                    rw [hbt] at bit
                    have HLN : Hid (L = fnW (mxW zs D v dn x (y + 1)) zs.length) := by
                      show _ = _
                      rw [HLL.out, mxW_step (mdW_no fun h => by rw [hbt] at h; exact absurd h.2.1 (by simp))]
                    clear hbt HKS hES hLS HKD HED
                    go_wp2_with fail
                    go_roundw
                    case rel => exact ⟨y + 1, L, by omega, by go_num, hLl, HLN, HK, HE.out⟩
                    case measure => simp [intOf]; omega
                  | true =>
                    rw [hbt] at bit
                    have hxy : x ≠ y := fun e1 => by rw [← e1, HXX.out x hxn] at hbt; cases hbt
                    have hyx : ¬ y = x := fun e1 => hxy e1.symm
                    have hanew := HAN.out hxy
                    have HBT := Lib.hid hbt
                    have HQ1 : Hid (D x = (dn : Int)) := by show _ = _; rw [HDX.out]; simpa using hq1
                    clear hbt
                    cases hq2 : (dy == (dn : Int) + 1) with
                    | false =>
                      have HLN : Hid (L = fnW (mxW zs D v dn x (y + 1)) zs.length) := by
                        show _ = _
                        rw [HLL.out, mxW_step (mdW_no fun h => by have h3 := h.2.2; rw [HDY.out] at h3; rw [h3] at hq2; simp at hq2)]
                      clear HKS hES hLS HKD HED
                      go_wp2_with fail
                      go_roundw
                      case rel => exact ⟨y + 1, L, by omega, by go_num, hLl, HLN, HK, HE.out⟩
                      case measure => simp [intOf]; omega
                    | true =>
                      have HQ2 : Hid (D y = ((dn + 1 : Nat) : Int)) := by show _ = _; rw [HDY.out]; simpa using hq2
                      have HLN : Hid (L.set y sv = fnW (mxW zs D v dn x (y + 1)) zs.length) := HSV.out HQ1.out HBT.out HQ2.out
                      cases hq3 : ((x : Int) == (v : Int)) <;> cases hq4 : ((y : Int) == (e : Int))
                      case true.true =>
                        exfalso
                        have e1 : x = v := by rw [beq_iff_eq] at hq3; omega
                        have e2 : y = e := by rw [beq_iff_eq] at hq4; omega
                        have h1 := (HDV.out x).2 e1
                        have h2 := HQ1.out
                        have h3 := HQ2.out
                        rw [e2] at h3
                        refine HN1.out ?_
                        rw [HDD.out e he]; omega
                      all_goals go_wp2_with fail
                      all_goals first | go_region | skip
                      all_goals try go_wp2_with fail
                      all_goals go_roundw
                      all_goals first
                        | exact ⟨y + 1, _, by omega, by go_num, hLS.out, HLN, HKD, HED.out⟩
                        | (simp [intOf]; omega)
              · obtain rfl : y = zs.length := by omega
                have HLN : Hid (L = fnW (mdW zs D v dn (x + 1)) zs.length) := by show _ = _; rw [HLL.out, mxW_end]
                clear cx
                go_wp2_with fail
                go_roundw
                case rel => exact ⟨x + 1, L, by omega, by go_num, hLl, HLN, HK, hE⟩
                case measure => simp [intOf]; omega
          · obtain rfl : x = zs.length := by omega
            have HLN : Hid (L = fnW (wyD zs D v (dn + 1)) zs.length) := by show _ = _; rw [HLL.out, mdW_end]
            go_wp2_with fail
            go_roundw
            case rel => exact ⟨dn + 1, L, by omega, by go_num, hLl, HLN, HK, hE⟩
            case measure => simp [intOf]; omega
      · have k1 := HK.out.cell (show e < L.length by omega)
        have hEF := Lib.hid (HB1.out.trans (hE.mono HB1.out.size))
        have HLE : Hid (el L e = AN) := by
          show _ = _
          rw [HLL.out, fnW_at _ he, HA0.out, wyD_at (by rw [HDe.out]; omega)]
        generalize el L e = le at k1 HLE
        go_wp2_with fail
        go_region_held3 (fun w' => w'.cell? ⟨gd, e, none⟩ = some (.int .i64 de) ∧ w'.cell? ⟨w1.heap.size, e, none⟩ = some (.int .i64 le)) (go_keep) (fail)
        all_goals go_wp2_with fail
        all_goals go_ret2
        all_goals exact ⟨by rw [HR.out, ← HLE.out]; rfl, hEF.out.drew⟩
end Go.Proofs.YtabkfihhfkmioaaDoor
