/-
  spec.ProductOfWord. (A tied seat.)
-/
import Derived.Test.YtklgimikdnokcaaDoorCb
import Derived.Test.YtklgimikdnokcaaDoorWb
namespace Go.Proofs.YtklgimikdnokcaaDoor
set_option maxRecDepth 100000
open Go.RowKit

theorem Sl.ptr {w : World} {a : Option Addr} {n c : Nat} {zs : List Int} (h : Sl w (.slice a n c) zs) (h0 : 0 < zs.length) : ∃ b off, a = some ⟨b, off, none⟩ ∧ b < w.heap.size ∧ Cells w b off zs := by
  rcases h with ⟨_, _, _, e⟩ | ⟨b, off, cap, e, hb, hc⟩
  · rw [e] at h0; simp at h0
  · injection e with e1
    exact ⟨b, off, e1, hb, hc⟩
/-- Whether a list is a word over a list of so many elements. -/
def wdOk (m : Nat) (ws : List Int) : Bool := decide (ws.length ≤ 16) && elOk m ws ws.length
theorem wdOk_iff (m : Nat) (ws : List Int) : wdOk m ws = true ↔ ws.length ≤ 16 ∧ elOk m ws ws.length = true := by unfold wdOk; simp
theorem wdOk_long {m : Nat} {ws : List Int} (h : 16 < ws.length) : wdOk m ws = false := by
  rw [← Bool.not_eq_true]; intro e; have := (wdOk_iff m ws).1 e; omega
theorem wdOk_bad {m : Nat} {ws : List Int} {i : Nat} (hi : i < ws.length) (h : inE m (el ws i) = false) : wdOk m ws = false := by
  rw [← Bool.not_eq_true]; intro e; have h2 := (wdOk_iff m ws).1 e; rw [elOk_no hi h] at h2; exact absurd h2.2 (by decide)
/-- The code of a product of a word, and the product. -/
def pwC (a b : Int) (js ws : List Int) : Int := if isGr a b && !wdOk js.length ws then 2 else giC a b js
def pwV (a b : Int) (js ws : List Int) : Int := if pwC a b js ws = 0 then (wordP a.toNat b.toNat js 0 (lets ws ws.length) : Nat) else 0
theorem giC_one {a b : Int} (js : List Int) (h : isGr a b = false) : giC a b js = 1 := by
  have := elC_no js h
  rw [giC_code (by rw [this]; decide), this]
theorem pwC_el {a b : Int} {js : List Int} (ws : List Int) (h : elC a b js ≠ 0) : pwC a b js ws = elC a b js := by
  unfold pwC
  rw [giC_code h]
  cases hi : isGr a b
  · rfl
  · cases hw : wdOk js.length ws
    · obtain ⟨k, p, rfl, rfl, hg⟩ := isGr_nat hi
      have he : elOk (gOrd k p) js js.length = false := by
        cases he : elOk (gOrd k p) js js.length with
        | false => rfl
        | true => exact absurd (elC_yes hg he) h
      rw [elC_bad hg he]; rfl
    · rfl
theorem pwC_bad {k p : Nat} (js ws : List Int) (hg : gOk k p = true) (hw : wdOk js.length ws = false) : pwC k p js ws = 2 := by
  unfold pwC; rw [isGr_cast, hg, hw]; rfl
theorem pwC_ok {a b : Int} {js ws : List Int} (hw : wdOk js.length ws = true) : pwC a b js ws = giC a b js := by
  unfold pwC; rw [hw]; simp
theorem pwV_no {a b : Int} {js ws : List Int} (h : pwC a b js ws ≠ 0) : pwV a b js ws = 0 := by unfold pwV; exact if_neg h
theorem pwV_yes {k p : Nat} {js ws : List Int} (h : pwC k p js ws = 0) : pwV k p js ws = (wordP k p js 0 (lets ws ws.length) : Nat) := by unfold pwV; rw [if_pos h, Int.toNat_natCast, Int.toNat_natCast]

set_option maxHeartbeats 800000 in
theorem specPw_code (a b : Int) (v wv : Value) (js : List Int) (w : World) (hs : Sl w v js) (hl : js.length ≤ 9223372036854775807) (h : elC a b js ≠ 0) :
    Calls Tryd.prog 23 #[gv a b, v, wv] w fun e w' => e = .returned (.tuple #[.int .i64 0, .int .i64 (elC a b js)]) ∧ Below w.heap.size w w' := by
  have D0 : Below w.heap.size w (w.alloc (.cells #[.int .i64 a, .int .i64 b] 27)) := (Below.refl _ _).alloc (Nat.le_refl _) _
  have hc := l05Elements_any a b v js (w.alloc (.cells #[.int .i64 a, .int .i64 b] 27)) (hs.below D0) hl
  obtain ⟨c, hcc⟩ : ∃ c, c = elC a b js := ⟨_, rfl⟩
  rw [← hcc] at hc h ⊢
  have e0 : (c == 0) = false := by simpa using h
  clear hcc h hs
  unfold gv at *
  go_enter Tryd.func23, Tryd.ntmps23
  go_wp2_with (go_at_call 33; with_reducible refine hc.mono ?_; rintro e w1 ⟨rfl, hb⟩)
  go_ret2
  exact ⟨rfl, D0.trans (hb.mono D0.size)⟩

set_option maxHeartbeats 800000 in
theorem specPw_long (k p : Nat) (v wv : Value) (js ws : List Int) (w : World) (hs : Sl w v js) (hl : js.length ≤ 9223372036854775807) (hg : gOk k p = true) (hj : elOk (gOrd k p) js js.length = true) (hsw : Sl w wv ws) (h16 : 16 < ws.length) :
    Calls Tryd.prog 23 #[gv k p, v, wv] w fun e w' => e = .returned (.tuple #[.int .i64 0, .int .i64 2]) ∧ Below w.heap.size w w' := by
  have D0 : Below w.heap.size w (w.alloc (.cells #[.int .i64 k, .int .i64 p] 27)) := (Below.refl _ _).alloc (Nat.le_refl _) _
  have hc := l05Elements_any k p v js (w.alloc (.cells #[.int .i64 k, .int .i64 p] 27)) (hs.below D0) hl
  rw [elC_yes hg hj] at hc
  have hf := slForm hsw
  clear hs hg hj hsw
  obtain ⟨wa, wc, rfl⟩ : ∃ a c, wv = .slice a ws.length c := ⟨_, _, hf⟩
  clear hf
  have h2 : (16 : Int) < ws.length := by omega
  simp only [gv] at *
  go_enter Tryd.func23, Tryd.ntmps23
  go_wp2_with (go_at_call 33; with_reducible refine hc.mono ?_; rintro e w1 ⟨rfl, hb⟩)
  go_ret2
  exact ⟨rfl, D0.trans (hb.mono D0.size)⟩

set_option maxHeartbeats 3200000 in
set_option maxRecDepth 100000 in
theorem specPw_near (k p : Nat) (v wv : Value) (js ws : List Int) (w : World) (hs : Sl w v js) (hl : js.length ≤ 9223372036854775807) (hg : gOk k p = true) (hj : elOk (gOrd k p) js js.length = true) (hsw : Sl w wv ws) (h16 : ws.length ≤ 16) :
    Calls Tryd.prog 23 #[gv k p, v, wv] w fun e w' => e = .returned (.tuple #[.int .i64 (pwV k p js ws), .int .i64 (pwC k p js ws)]) ∧ Below w.heap.size w w' := by
  have D0 : Below w.heap.size w (w.alloc (.cells #[.int .i64 k, .int .i64 p] 27)) := (Below.refl _ _).alloc (Nat.le_refl _) _
  have HB0 := Lib.hid (World.alloc_heap_new w (.cells #[.int .i64 k, .int .i64 p] 27))
  have hc := l05Elements_any k p v js (w.alloc (.cells #[.int .i64 k, .int .i64 p] 27)) (hs.below D0) hl
  rw [elC_yes hg hj] at hc
  have HSET := Lib.hid (fun W hsW => l05Set_any k p v js W hg hj hsW hl)
  have HT := Lib.hid (fun x y W (hx : x < gOrd k p) (hy : y < gOrd k p) => l05Times_any k p x y W hg hx hy)
  have HWL := Lib.hid (fun ls => @wordP_lt k p js 0 hg (gOrd_pos hg) ls)
  have HS := Lib.hid hs
  have HSW := Lib.hid hsw
  have HG := Lib.hid hg
  have HJ := Lib.hid hj
  have hf := slForm hsw
  have hf2 := slForm hs
  clear hs hg hj hsw
  obtain ⟨wa, wc, rfl⟩ : ∃ a c, wv = .slice a ws.length c := ⟨_, _, hf⟩
  obtain ⟨sa, sc, rfl⟩ : ∃ a c, v = .slice a js.length c := ⟨_, _, hf2⟩
  clear hf hf2
  have h2 : ¬ (16 : Int) < ws.length := by omega
  simp only [gv] at *
  go_enter Tryd.func23, Tryd.ntmps23
  go_wp2_with fail
  refine hc.mono ?_
  rintro e w1 ⟨rfl, hb1⟩
  have s1 := hb1.size
  rw [World.size_alloc] at hb1 s1
  clear hc
  have E1 : Below w.heap.size w w1 := D0.trans (hb1.mono (by omega))
  go_wp2_with fail
  go_loop [9] (fun i => ∃ t : Nat, t ≤ ws.length ∧ i = .int .i64 t ∧ Hid (elOk js.length ws t = true)) (fun i => ws.length - (intOf i).toNat)
  case atStart => exact ⟨0, Nat.zero_le _, rfl, rfl⟩
  case round =>
    obtain ⟨t, ht, rfl, HK⟩ := hrel
    by_cases hlt : (t : Int) < ws.length
    · have htl : t < ws.length := by omega
      obtain ⟨b, off, rfl, hb, hcc⟩ := Sl.ptr HSW.out (by omega)
      have hz : w1.cell? ⟨b, off + t, none⟩ = some (.int .i64 (el ws t)) := (E1.cell (p := ⟨b, off + t, none⟩) hb).trans (hcc t htl)
      have ht0 : (0 : Int) ≤ t := by omega
      have HIN := Lib.hid (fun W => in_any (el ws t) 0 ((js.length : Int) - 1) W)
      have HV : Hid ((decide (0 ≤ el ws t) && decide (el ws t ≤ (js.length : Int) - 1)) = inE js.length (el ws t)) := by
        show _ = _
        unfold inE; congr 1; rw [decide_eq_decide]; omega
      rw [HV.out] at HIN
      have hjl : ((js.length : Int)) ≤ 9223372036854775807 := by omega
      have hjl0 : (0 : Int) ≤ js.length := by omega
      clear hcc
      cases hq : inE js.length (el ws t)
      · have HC2 := Lib.hid (pwC_bad (k := k) (p := p) js ws HG.out (wdOk_bad htl hq))
        have HV2 := Lib.hid (pwV_no (a := k) (b := p) (js := js) (ws := ws) (by rw [HC2.out]; decide))
        rw [hq] at HIN
        clear hq HV
        go_wp2_with (go_at_call 40; with_reducible refine (HIN.out _).mono ?_; rintro e w2 ⟨rfl, rfl⟩)
        go_ret2
        exact ⟨by rw [HC2.out, HV2.out]; rfl, E1⟩
      · have HK2 : Hid (elOk js.length ws (t + 1) = true) := by show _ = _; rw [elOk_succ, HK.out, hq]; rfl
        rw [hq] at HIN
        clear hq HV
        go_wp2_with (go_at_call 40; with_reducible refine (HIN.out _).mono ?_; rintro e w2 ⟨rfl, rfl⟩)
        go_round
        case rel => exact ⟨t + 1, by omega, by go_num, HK2⟩
        case measure => simp [intOf]; omega
    · obtain rfl : t = ws.length := by omega
      have hw : wdOk js.length ws = true := (wdOk_iff _ _).2 ⟨h16, HK.out⟩
      have HP := Lib.hid (pwC_ok (a := k) (b := p) (js := js) (ws := ws) hw)
      have hset := HSET.out w1 (HS.out.below E1)
      obtain ⟨r0, r1, -, -⟩ := two_cells ((hb1.block w.heap.size (by omega)).trans HB0.out)
      clear hw HSET
      by_cases hq : clE k p js = js
      · have HC2 := Lib.hid (HP.out.trans (giC_yes (elC_yes HG.out HJ.out) hq))
        have HV2 := Lib.hid (pwV_yes (k := k) (p := p) (js := js) (ws := ws) HC2.out)
        rw [decide_eq_true hq] at hset
        clear hq
        go_wp2_with fail
        refine hset.mono ?_
        rintro e w2 ⟨rfl, hb2⟩
        have E2 := hb1.trans (hb2.mono s1)
        clear r0 r1 hset hb2
        go_wp2_with fail
        go_loopw [10, 11] (fun x i wr => ∃ t : Nat, t ≤ ws.length ∧ i = .int .i64 t ∧ x = .int .i64 (wordP k p js 0 (lets ws t) : Nat) ∧ Below (w.heap.size + 1) (w.alloc (.cells #[.int .i64 k, .int .i64 p] 27)) wr ∧ w.heap.size + 1 ≤ wr.heap.size) (fun _ i _ => ws.length - (intOf i).toNat)
        case atStart => exact ⟨0, Nat.zero_le _, rfl, rfl, E2, by have := E2.size; simpa using this⟩
        case round =>
          obtain ⟨t, ht, rfl, rfl, hE, hs3⟩ := hrel
          by_cases hlt2 : (t : Int) < ws.length
          · have htl : t < ws.length := by omega
            obtain ⟨b, off, rfl, hb, hcc⟩ := Sl.ptr HSW.out (by omega)
            have he := elOk_at HK.out htl
            obtain ⟨l, hl1⟩ := Int.eq_ofNat_of_zero_le he.1
            have hll : l < js.length := by omega
            obtain ⟨b2, off2, rfl, hb2, hcc2⟩ := Sl.ptr HS.out (by omega)
            have hz : wr.cell? ⟨b, off + t, none⟩ = some (.int .i64 (el ws t)) := (hE.cell (p := ⟨b, off + t, none⟩) (by simp; omega)).trans ((D0.cell (p := ⟨b, off + t, none⟩) hb).trans (hcc t htl))
            have hz2 : wr.cell? ⟨b2, off2 + l, none⟩ = some (.int .i64 (el js l)) := (hE.cell (p := ⟨b2, off2 + l, none⟩) (by simp; omega)).trans ((D0.cell (p := ⟨b2, off2 + l, none⟩) hb2).trans (hcc2 l hll))
            have he2 := elOk_at HJ.out hll
            obtain ⟨y, hy⟩ := Int.eq_ofNat_of_zero_le he2.1
            rw [hl1] at hz
            rw [hy] at hz2 he2
            have HN : Hid (wordP k p js 0 (lets ws (t + 1)) = gMul k p (wordP k p js 0 (lets ws t)) y) := by show _ = _; simp only [lets, wordP, hl1, Int.toNat_natCast, hy]
            obtain ⟨r0, r1, -, -⟩ := two_cells ((hE.block w.heap.size (by omega)).trans HB0.out)
            obtain ⟨x, hx⟩ : ∃ x, x = wordP k p js 0 (lets ws t) := ⟨_, rfl⟩
            have hxl := HWL.out (lets ws t)
            rw [← hx] at hxl HN ⊢
            have HTM := Lib.hid (HT.out x y wr.drew hxl (by omega))
            have HEE : Hid (∀ w4 : World, Below wr.drew.heap.size wr.drew w4 → Below (w.heap.size + 1) (w.alloc (.cells #[.int .i64 k, .int .i64 p] 27)) w4 ∧ w.heap.size + 1 ≤ w4.heap.size) := fun w4 h4 => ⟨hE.drew.trans (h4.mono (by simpa using hs3)), Nat.le_trans hs3 (by simpa using h4.size)⟩
            have ht0 : (0 : Int) ≤ t := by omega
            have hl0 : (0 : Int) ≤ l := by omega
            have hll2 : (l : Int) < js.length := by omega
            clear hcc hcc2 he he2 hl1 hy hx hxl
            go_wp2_with fail
            go_region_with (go_at_call 41; with_reducible refine HTM.out.mono ?_; rintro e w4 ⟨rfl, hb4⟩; obtain ⟨hE4, s4⟩ := HEE.out w4 hb4; clear hb4)
            all_goals
              go_wp2_with fail
              go_roundw
              case rel => exact ⟨t + 1, by omega, by go_num, by rw [HN.out], hE4, s4⟩
              case measure => simp [intOf]; omega
          · obtain rfl : t = ws.length := by omega
            go_wp2_with fail
            go_ret2
            exact ⟨by rw [HC2.out, HV2.out]; rfl, D0.trans (hE.mono (by omega))⟩
      · have HC2 := Lib.hid (HP.out.trans (giC_set (elC_yes HG.out HJ.out) hq))
        have HV2 := Lib.hid (pwV_no (a := k) (b := p) (js := js) (ws := ws) (by rw [HC2.out]; decide))
        rw [decide_eq_false hq] at hset
        clear hq
        go_wp2_with fail
        refine hset.mono ?_
        rintro e w2 ⟨rfl, hb2⟩
        have E2 := hb1.trans (hb2.mono s1)
        clear r0 r1 hset hb2
        go_wp2_with fail
        go_ret2
        exact ⟨by rw [HC2.out, HV2.out]; rfl, D0.trans (E2.mono (by omega))⟩

theorem specPw_any (a b : Int) (v wv : Value) (js ws : List Int) (w : World) (hs : Sl w v js) (hsw : Sl w wv ws) (hl : js.length ≤ 9223372036854775807) :
    Calls Tryd.prog 23 #[gv a b, v, wv] w fun e w' => e = .returned (.tuple #[.int .i64 (pwV a b js ws), .int .i64 (pwC a b js ws)]) ∧ Below w.heap.size w w' := by
  by_cases h : elC a b js = 0
  · obtain ⟨k, p, rfl, rfl, hg, hj⟩ := elC_zero h
    by_cases h16 : ws.length ≤ 16
    · exact specPw_near k p v wv js ws w hs hl hg hj hsw h16
    · have e := pwC_bad (k := k) (p := p) js ws hg (wdOk_long (by omega))
      rw [pwV_no (by rw [e]; decide), e]
      exact specPw_long k p v wv js ws w hs hl hg hj hsw (by omega)
  · have e := pwC_el (js := js) ws h
    rw [pwV_no (by rw [e]; exact h), e]
    exact specPw_code a b v wv js w hs hl h
end Go.Proofs.YtklgimikdnokcaaDoor
