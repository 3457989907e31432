/-
  impl.ProductOfWord. (A tied seat.)
-/
import Derived.Test.YtklgimikdnokcaaDoorWc
namespace Go.Proofs.YtklgimikdnokcaaDoor
set_option maxRecDepth 100000
open Go.RowKit

set_option maxHeartbeats 1600000 in
theorem implPw_bad (k p : Nat) (v wv : Value) (js ws : List Int) (w : World) (hs : Sl w v js) (hsw : Sl w wv ws) (hlw : ws.length ≤ 9223372036854775807) (hg : gOk k p = true) (hw : wdOk js.length ws = false) :
    Calls Tryd.prog 24 #[gv k p, v, wv] w fun e w' => e = .returned (.tuple #[.int .i64 0, .int .i64 2]) ∧ Below w.heap.size w w' := by
  have D0 : Below w.heap.size w (w.alloc (.cells #[.int .i64 k, .int .i64 p] 27)) := (Below.refl _ _).alloc (Nat.le_refl _) _
  have hi := implIsGroup_any k p (w.alloc (.cells #[.int .i64 k, .int .i64 p] 27))
  rw [isGr_cast, hg] at hi
  have HAR := Lib.hid (fun W h => areRests_any js.length wv ws W h hlw)
  have HSW := Lib.hid (hsw.below D0)
  have hf := slForm hsw
  have hf2 := slForm hs
  obtain ⟨wa, wc, rfl⟩ : ∃ a c, wv = .slice a ws.length c := ⟨_, _, hf⟩
  obtain ⟨sa, sc, rfl⟩ : ∃ a c, v = .slice a js.length c := ⟨_, _, hf2⟩
  clear hs hsw hf hf2 hg
  simp only [gv] at *
  by_cases h16 : 16 < ws.length
  · have h2 : (16 : Int) < ws.length := by omega
    go_enter Tryd.func24, Tryd.ntmps24
    go_wp2_with (go_at_call 42; with_reducible refine hi.mono ?_; rintro e w1 ⟨rfl, hb⟩)
    go_ret2
    exact ⟨rfl, D0.trans (hb.mono D0.size)⟩
  · have h2 : ¬ (16 : Int) < ws.length := by omega
    have he : elOk js.length ws ws.length = false := by
      cases he : elOk js.length ws ws.length with
      | false => rfl
      | true => rw [(wdOk_iff _ _).2 ⟨by omega, he⟩] at hw; cases hw
    rw [he] at HAR
    clear he hw h16
    go_enter Tryd.func24, Tryd.ntmps24
    go_wp2_with (first | (go_at_call 42; with_reducible refine hi.mono ?_; rintro e w1 ⟨rfl, hb⟩) | (go_at_call 43; with_reducible refine (HAR.out _ (HSW.out.below hb)).mono ?_; rintro e w2 ⟨rfl, rfl⟩))
    go_ret2
    exact ⟨rfl, D0.trans (hb.mono D0.size)⟩

set_option maxHeartbeats 1600000 in
theorem implPw_nogroup (a b : Int) (v wv : Value) (js : List Int) (w : World) (hs : Sl w v js) (hl : js.length ≤ 9223372036854775807) (hT : Tab w) (h : isGr a b = false) :
    Calls Tryd.prog 24 #[gv a b, v, wv] w fun e w' => e = .returned (.tuple #[.int .i64 0, .int .i64 1]) ∧ Below w.heap.size w w' := by
  have D0 : Below w.heap.size w (w.alloc (.cells #[.int .i64 a, .int .i64 b] 27)) := (Below.refl _ _).alloc (Nat.le_refl _) _
  have HB0 := Lib.hid (World.alloc_heap_new w (.cells #[.int .i64 a, .int .i64 b] 27))
  have hi := implIsGroup_any a b (w.alloc (.cells #[.int .i64 a, .int .i64 b] 27))
  rw [h] at hi
  have HG := Lib.hid (fun W hsW hTW => groupSet_no a b v js W hsW hl hTW (by rw [giC_one js h]; decide))
  rw [giC_one js h] at HG
  have HS := Lib.hid (hs.below D0)
  have HT := Lib.hid (hT.belowAll D0)
  clear hs hT h
  simp only [gv] at *
  go_enter Tryd.func24, Tryd.ntmps24
  go_wp2_with fail
  refine hi.mono ?_
  rintro e w1 ⟨rfl, hb1⟩
  have hs1 := HS.out.below hb1
  have hT1 := HT.out.belowAll hb1
  have s1 := hb1.size
  rw [World.size_alloc] at hb1 s1
  obtain ⟨r0, r1, -, -⟩ := two_cells ((hb1.block w.heap.size (by omega)).trans HB0.out)
  have hgs := HG.out w1 hs1 hT1
  clear hi
  go_wp2_with fail
  refine hgs.mono ?_
  rintro e w2 ⟨rfl, hb2⟩
  have E2 := D0.trans ((hb1.trans (hb2.mono s1)).mono (by omega))
  go_wp2_with fail
  go_ret2
  exact ⟨rfl, E2⟩

set_option maxHeartbeats 1600000 in
theorem implPw_noset (k p : Nat) (v wv : Value) (js ws : List Int) (w : World) (hs : Sl w v js) (hsw : Sl w wv ws) (hl : js.length ≤ 9223372036854775807) (hlw : ws.length ≤ 9223372036854775807) (hT : Tab w) (hg : gOk k p = true) (hw : wdOk js.length ws = true) (h : giC k p js ≠ 0) :
    Calls Tryd.prog 24 #[gv k p, v, wv] w fun e w' => e = .returned (.tuple #[.int .i64 0, .int .i64 (giC k p js)]) ∧ Below w.heap.size w w' := by
  have D0 : Below w.heap.size w (w.alloc (.cells #[.int .i64 k, .int .i64 p] 27)) := (Below.refl _ _).alloc (Nat.le_refl _) _
  have HB0 := Lib.hid (World.alloc_heap_new w (.cells #[.int .i64 k, .int .i64 p] 27))
  have hi := implIsGroup_any k p (w.alloc (.cells #[.int .i64 k, .int .i64 p] 27))
  rw [isGr_cast, hg] at hi
  have HG := Lib.hid (fun W hsW hTW => groupSet_no k p v js W hsW hl hTW h)
  obtain ⟨h16, he⟩ := (wdOk_iff _ _).1 hw
  have HAR := Lib.hid (fun W h => areRests_any js.length wv ws W h hlw)
  rw [he] at HAR
  obtain ⟨c, hcc⟩ : ∃ c, c = giC k p js := ⟨_, rfl⟩
  rw [← hcc] at HG h ⊢
  have e0 : (c == 0) = false := by simpa using h
  have HS := Lib.hid (hs.below D0)
  have HSW := Lib.hid (hsw.below D0)
  have HT := Lib.hid (hT.belowAll D0)
  have hf := slForm hsw
  have hf2 := slForm hs
  obtain ⟨wa, wc, rfl⟩ : ∃ a c, wv = .slice a ws.length c := ⟨_, _, hf⟩
  obtain ⟨sa, sc, rfl⟩ : ∃ a c, v = .slice a js.length c := ⟨_, _, hf2⟩
  clear hs hsw hT hg hw h hcc he hf hf2
  have h2 : ¬ (16 : Int) < ws.length := by omega
  simp only [gv] at *
  go_enter Tryd.func24, Tryd.ntmps24
  go_wp2_with fail
  refine hi.mono ?_
  rintro e w1 ⟨rfl, hb1⟩
  have hs1 := HS.out.below hb1
  have hsw1 := HSW.out.below hb1
  have hT1 := HT.out.belowAll hb1
  have s1 := hb1.size
  rw [World.size_alloc] at hb1 s1
  obtain ⟨r0, r1, -, -⟩ := two_cells ((hb1.block w.heap.size (by omega)).trans HB0.out)
  have hgs := HG.out w1 hs1 hT1
  have har := HAR.out w1 hsw1
  clear hi
  go_wp2_with fail
  refine har.mono ?_
  rintro e w2 ⟨rfl, hw2⟩
  subst hw2
  go_wp2_with fail
  refine hgs.mono ?_
  rintro e w2 ⟨rfl, hb2⟩
  have E2 := D0.trans ((hb1.trans (hb2.mono s1)).mono (by omega))
  go_wp2_with fail
  go_ret2
  exact ⟨rfl, E2⟩

set_option maxHeartbeats 3200000 in
theorem implPw_0 (p : Nat) (v wv : Value) (js ws : List Int) (w : World) (hs : Sl w v js) (hsw : Sl w wv ws) (hl : js.length ≤ 9223372036854775807) (hT : Tab w) (hg : gOk 0 p = true) (hj : elOk (gOrd 0 p) js js.length = true) (hq : clE 0 p js = js) (hw : wdOk js.length ws = true) :
    Calls Tryd.prog 24 #[gv 0 p, v, wv] w fun e w' => e = .returned (.tuple #[.int .i64 (wordP 0 p js 0 (lets ws ws.length) : Nat), .int .i64 0]) ∧ Below w.heap.size w w' := by
  have D0 : Below w.heap.size w (w.alloc (.cells #[.int .i64 0, .int .i64 p] 27)) := (Below.refl _ _).alloc (Nat.le_refl _) _
  have HB0 := Lib.hid (World.alloc_heap_new w (.cells #[.int .i64 0, .int .i64 p] 27))
  have hi := implIsGroup_any 0 p (w.alloc (.cells #[.int .i64 0, .int .i64 p] 27))
  have hig : isGr 0 p = true := by have := isGr_cast 0 p; rw [hg] at this; exact this
  rw [hig] at hi
  have HG := Lib.hid (fun W hsW hTW => groupSet_0 p v js W hsW hl hg hj hTW hq)
  obtain ⟨h16, he⟩ := (wdOk_iff _ _).1 hw
  have HAR := Lib.hid (fun W h => areRests_any js.length wv ws W h (by omega))
  have HLT := Lib.hid (lets_lt he ws.length (Nat.le_refl _))
  have HWO := Lib.hid (fun (W : World) sl sc sa hsW => wordOf_0 p sl sc sa wv ws W hsW h16 js.length he)
  rw [he] at HAR
  have HWC := Lib.hid (fun gb sb b off cap => word_calls_0 p gb sb b off cap 0 js hg (gOrd_pos hg) hj)
  have HS := Lib.hid (hs.below D0)
  have HSW := Lib.hid (hsw.below D0)
  have HT := Lib.hid (hT.belowAll D0)
  have HE := Lib.hid he
  obtain ⟨V, hV⟩ : ∃ V, V = wordP 0 p js 0 (lets ws ws.length) := ⟨_, rfl⟩
  rw [← hV]
  have HV := Lib.hid hV
  clear hV
  have hf := slForm hsw
  have hf2 := slForm hs
  obtain ⟨wa, wc, rfl⟩ : ∃ a c, wv = .slice a ws.length c := ⟨_, _, hf⟩
  obtain ⟨sa, sc, rfl⟩ : ∃ a c, v = .slice a js.length c := ⟨_, _, hf2⟩
  clear hs hsw hT hg hj hq hw he hf hf2 hig
  have h2 : ¬ (16 : Int) < ws.length := by omega
  simp only [gv, gIf, Int.natCast_zero] at *
  go_enter Tryd.func24, Tryd.ntmps24
  go_wp2_with fail
  refine hi.mono ?_
  rintro e w1 ⟨rfl, hb1⟩
  have hs1 := HS.out.below hb1
  have hsw1 := HSW.out.below hb1
  have hT1 := HT.out.belowAll hb1
  have s1 := hb1.size
  rw [World.size_alloc] at hb1 s1
  obtain ⟨r0, r1, -, -⟩ := two_cells ((hb1.block w.heap.size (by omega)).trans HB0.out)
  have hgs := HG.out w1 hs1 hT1
  have har := HAR.out w1 hsw1
  clear hi
  go_wp2_with fail
  refine har.mono ?_
  rintro e w2 ⟨rfl, hw2⟩
  subst hw2
  go_wp2_with fail
  refine hgs.mono ?_
  rintro e w2 ⟨rfl, hb2⟩
  have hs2 := hs1.below hb2
  have hsw2 := hsw1.below hb2
  have hwo := HWO.out w2 js.length sc sa hsw2
  have E2 := D0.trans ((hb1.trans (hb2.mono s1)).mono (by omega))
  clear har hgs r0 r1 hb1 hb2
  go_wp2_with fail
  refine hwo.mono ?_
  rintro e w3 ⟨⟨u, rfl, hu⟩, hg3, hs3, hb3⟩
  have E3 := E2.trans (hb3.mono E2.size)
  by_cases h0 : ws.length = 0
  · have hl0 : lets ws ws.length = [] := by rw [h0]; rfl
    rw [hl0] at hu
    have HL0 := Lib.hid hl0
    clear hl0
    obtain rfl : u = _ := hu
    have hc1 := word1_any 0 w3
    clear hg3 hs3 hwo
    go_wp2_with fail
    refine hc1.mono ?_
    rintro e w4 ⟨rfl, rfl⟩
    go_wp2_with fail
    go_ret2
    exact ⟨by rw [HV.out, HL0.out]; rfl, E3⟩
  · have hp0 : 0 < js.length := by
      have := elOk_at HE.out (show 0 < ws.length by omega)
      omega
    obtain ⟨b, off, rfl, hb, hcc⟩ := Sl.ptr (hs2.below hb3) (by omega)
    have hcv := HWC.out w2.heap.size (w2.heap.size + 1) b off sc (lets ws ws.length) w3 u hu (fun l hl => HLT.out l hl) hg3 hs3 hb hcc
    obtain ⟨vf, vc, hvf⟩ := hu.form
    cases hls : lets ws ws.length with
    | nil => rw [show ws.length = (ws.length - 1) + 1 by omega, lets] at hls; cases hls
    | cons l ls =>
      rw [hls] at hu hcv
      have HLS := Lib.hid hls
      obtain ⟨bb, lb, u2, rfl, -, -, -⟩ := hu
      have hco := hcv.out
      clear hg3 hs3 hwo hcv hcc hs2 hsw2 hvf hls
      go_wp2_with fail
      refine hco.mono ?_
      rintro e w4 ⟨rfl, hb4⟩
      go_wp2_with fail
      go_ret2
      exact ⟨by rw [HV.out, HLS.out]; rfl, E3.trans (hb4.mono E3.size)⟩

set_option maxHeartbeats 3200000 in
theorem implPw_1 (p : Nat) (v wv : Value) (js ws : List Int) (w : World) (hs : Sl w v js) (hsw : Sl w wv ws) (hl : js.length ≤ 9223372036854775807) (hT : Tab w) (hg : gOk 1 p = true) (hj : elOk (gOrd 1 p) js js.length = true) (hq : clE 1 p js = js) (hw : wdOk js.length ws = true) :
    Calls Tryd.prog 24 #[gv 1 p, v, wv] w fun e w' => e = .returned (.tuple #[.int .i64 (wordP 1 p js 0 (lets ws ws.length) : Nat), .int .i64 0]) ∧ Below w.heap.size w w' := by
  have D0 : Below w.heap.size w (w.alloc (.cells #[.int .i64 1, .int .i64 p] 27)) := (Below.refl _ _).alloc (Nat.le_refl _) _
  have HB0 := Lib.hid (World.alloc_heap_new w (.cells #[.int .i64 1, .int .i64 p] 27))
  have hi := implIsGroup_any 1 p (w.alloc (.cells #[.int .i64 1, .int .i64 p] 27))
  have hig : isGr 1 p = true := by have := isGr_cast 1 p; rw [hg] at this; exact this
  rw [hig] at hi
  have HG := Lib.hid (fun W hsW hTW => groupSet_1 p v js W hsW hl hg hj hTW hq)
  obtain ⟨h16, he⟩ := (wdOk_iff _ _).1 hw
  have HAR := Lib.hid (fun W h => areRests_any js.length wv ws W h (by omega))
  have HLT := Lib.hid (lets_lt he ws.length (Nat.le_refl _))
  have HWO := Lib.hid (fun (W : World) sl sc sa hsW => wordOf_1 p sl sc sa wv ws W hsW h16 js.length he)
  rw [he] at HAR
  have HWC := Lib.hid (fun gb sb b off cap => word_calls_1 p gb sb b off cap 0 js hg (gOrd_pos hg) hj)
  have HS := Lib.hid (hs.below D0)
  have HSW := Lib.hid (hsw.below D0)
  have HT := Lib.hid (hT.belowAll D0)
  have HE := Lib.hid he
  obtain ⟨V, hV⟩ : ∃ V, V = wordP 1 p js 0 (lets ws ws.length) := ⟨_, rfl⟩
  rw [← hV]
  have HV := Lib.hid hV
  clear hV
  have hf := slForm hsw
  have hf2 := slForm hs
  obtain ⟨wa, wc, rfl⟩ : ∃ a c, wv = .slice a ws.length c := ⟨_, _, hf⟩
  obtain ⟨sa, sc, rfl⟩ : ∃ a c, v = .slice a js.length c := ⟨_, _, hf2⟩
  clear hs hsw hT hg hj hq hw he hf hf2 hig
  have h2 : ¬ (16 : Int) < ws.length := by omega
  simp only [gv, gIf, Int.natCast_zero] at *
  go_enter Tryd.func24, Tryd.ntmps24
  go_wp2_with fail
  refine hi.mono ?_
  rintro e w1 ⟨rfl, hb1⟩
  have hs1 := HS.out.below hb1
  have hsw1 := HSW.out.below hb1
  have hT1 := HT.out.belowAll hb1
  have s1 := hb1.size
  rw [World.size_alloc] at hb1 s1
  obtain ⟨r0, r1, -, -⟩ := two_cells ((hb1.block w.heap.size (by omega)).trans HB0.out)
  have hgs := HG.out w1 hs1 hT1
  have har := HAR.out w1 hsw1
  clear hi
  go_wp2_with fail
  refine har.mono ?_
  rintro e w2 ⟨rfl, hw2⟩
  subst hw2
  go_wp2_with fail
  refine hgs.mono ?_
  rintro e w2 ⟨rfl, hb2⟩
  have hs2 := hs1.below hb2
  have hsw2 := hsw1.below hb2
  have hwo := HWO.out w2 js.length sc sa hsw2
  have E2 := D0.trans ((hb1.trans (hb2.mono s1)).mono (by omega))
  clear har hgs r0 r1 hb1 hb2
  go_wp2_with fail
  refine hwo.mono ?_
  rintro e w3 ⟨⟨u, rfl, hu⟩, hg3, hs3, hb3⟩
  have E3 := E2.trans (hb3.mono E2.size)
  by_cases h0 : ws.length = 0
  · have hl0 : lets ws ws.length = [] := by rw [h0]; rfl
    rw [hl0] at hu
    have HL0 := Lib.hid hl0
    clear hl0
    obtain rfl : u = _ := hu
    have hc1 := word1_any 0 w3
    clear hg3 hs3 hwo
    go_wp2_with fail
    refine hc1.mono ?_
    rintro e w4 ⟨rfl, rfl⟩
    go_wp2_with fail
    go_ret2
    exact ⟨by rw [HV.out, HL0.out]; rfl, E3⟩
  · have hp0 : 0 < js.length := by
      have := elOk_at HE.out (show 0 < ws.length by omega)
      omega
    obtain ⟨b, off, rfl, hb, hcc⟩ := Sl.ptr (hs2.below hb3) (by omega)
    have hcv := HWC.out w2.heap.size (w2.heap.size + 1) b off sc (lets ws ws.length) w3 u hu (fun l hl => HLT.out l hl) hg3 hs3 hb hcc
    obtain ⟨vf, vc, hvf⟩ := hu.form
    cases hls : lets ws ws.length with
    | nil => rw [show ws.length = (ws.length - 1) + 1 by omega, lets] at hls; cases hls
    | cons l ls =>
      rw [hls] at hu hcv
      have HLS := Lib.hid hls
      obtain ⟨bb, lb, u2, rfl, -, -, -⟩ := hu
      have hco := hcv.out
      clear hg3 hs3 hwo hcv hcc hs2 hsw2 hvf hls
      go_wp2_with fail
      refine hco.mono ?_
      rintro e w4 ⟨rfl, hb4⟩
      go_wp2_with fail
      go_ret2
      exact ⟨by rw [HV.out, HLS.out]; rfl, E3.trans (hb4.mono E3.size)⟩

set_option maxHeartbeats 3200000 in
theorem implPw_2 (p : Nat) (v wv : Value) (js ws : List Int) (w : World) (hs : Sl w v js) (hsw : Sl w wv ws) (hl : js.length ≤ 9223372036854775807) (hT : Tab w) (hg : gOk 2 p = true) (hj : elOk (gOrd 2 p) js js.length = true) (hq : clE 2 p js = js) (hw : wdOk js.length ws = true) :
    Calls Tryd.prog 24 #[gv 2 p, v, wv] w fun e w' => e = .returned (.tuple #[.int .i64 (wordP 2 p js 0 (lets ws ws.length) : Nat), .int .i64 0]) ∧ Below w.heap.size w w' := by
  have D0 : Below w.heap.size w (w.alloc (.cells #[.int .i64 2, .int .i64 p] 27)) := (Below.refl _ _).alloc (Nat.le_refl _) _
  have HB0 := Lib.hid (World.alloc_heap_new w (.cells #[.int .i64 2, .int .i64 p] 27))
  have hi := implIsGroup_any 2 p (w.alloc (.cells #[.int .i64 2, .int .i64 p] 27))
  have hig : isGr 2 p = true := by have := isGr_cast 2 p; rw [hg] at this; exact this
  rw [hig] at hi
  have HG := Lib.hid (fun W hsW hTW => groupSet_2 p v js W hsW hl hg hj hTW hq)
  obtain ⟨h16, he⟩ := (wdOk_iff _ _).1 hw
  have HAR := Lib.hid (fun W h => areRests_any js.length wv ws W h (by omega))
  have HLT := Lib.hid (lets_lt he ws.length (Nat.le_refl _))
  have HWO := Lib.hid (fun (W : World) sl sc sa hsW => wordOf_2 p sl sc sa wv ws W hsW h16 js.length he)
  rw [he] at HAR
  have HWC := Lib.hid (fun gb sb b off cap => word_calls_2 p gb sb b off cap 0 js hg (gOrd_pos hg) hj)
  have HS := Lib.hid (hs.below D0)
  have HSW := Lib.hid (hsw.below D0)
  have HT := Lib.hid (hT.belowAll D0)
  have HE := Lib.hid he
  obtain ⟨V, hV⟩ : ∃ V, V = wordP 2 p js 0 (lets ws ws.length) := ⟨_, rfl⟩
  rw [← hV]
  have HV := Lib.hid hV
  clear hV
  have hf := slForm hsw
  have hf2 := slForm hs
  obtain ⟨wa, wc, rfl⟩ : ∃ a c, wv = .slice a ws.length c := ⟨_, _, hf⟩
  obtain ⟨sa, sc, rfl⟩ : ∃ a c, v = .slice a js.length c := ⟨_, _, hf2⟩
  clear hs hsw hT hg hj hq hw he hf hf2 hig
  have h2 : ¬ (16 : Int) < ws.length := by omega
  simp only [gv, gIf, Int.natCast_zero] at *
  go_enter Tryd.func24, Tryd.ntmps24
  go_wp2_with fail
  refine hi.mono ?_
  rintro e w1 ⟨rfl, hb1⟩
  have hs1 := HS.out.below hb1
  have hsw1 := HSW.out.below hb1
  have hT1 := HT.out.belowAll hb1
  have s1 := hb1.size
  rw [World.size_alloc] at hb1 s1
  obtain ⟨r0, r1, -, -⟩ := two_cells ((hb1.block w.heap.size (by omega)).trans HB0.out)
  have hgs := HG.out w1 hs1 hT1
  have har := HAR.out w1 hsw1
  clear hi
  go_wp2_with fail
  refine har.mono ?_
  rintro e w2 ⟨rfl, hw2⟩
  subst hw2
  go_wp2_with fail
  refine hgs.mono ?_
  rintro e w2 ⟨rfl, hb2⟩
  have hs2 := hs1.below hb2
  have hsw2 := hsw1.below hb2
  have hwo := HWO.out w2 js.length sc sa hsw2
  have E2 := D0.trans ((hb1.trans (hb2.mono s1)).mono (by omega))
  clear har hgs r0 r1 hb1 hb2
  go_wp2_with fail
  refine hwo.mono ?_
  rintro e w3 ⟨⟨u, rfl, hu⟩, hg3, hs3, hb3⟩
  have E3 := E2.trans (hb3.mono E2.size)
  by_cases h0 : ws.length = 0
  · have hl0 : lets ws ws.length = [] := by rw [h0]; rfl
    rw [hl0] at hu
    have HL0 := Lib.hid hl0
    clear hl0
    obtain rfl : u = _ := hu
    have hc1 := word1_any 0 w3
    clear hg3 hs3 hwo
    go_wp2_with fail
    refine hc1.mono ?_
    rintro e w4 ⟨rfl, rfl⟩
    go_wp2_with fail
    go_ret2
    exact ⟨by rw [HV.out, HL0.out]; rfl, E3⟩
  · have hp0 : 0 < js.length := by
      have := elOk_at HE.out (show 0 < ws.length by omega)
      omega
    obtain ⟨b, off, rfl, hb, hcc⟩ := Sl.ptr (hs2.below hb3) (by omega)
    have hcv := HWC.out w2.heap.size (w2.heap.size + 1) b off sc (lets ws ws.length) w3 u hu (fun l hl => HLT.out l hl) hg3 hs3 hb hcc
    obtain ⟨vf, vc, hvf⟩ := hu.form
    cases hls : lets ws ws.length with
    | nil => rw [show ws.length = (ws.length - 1) + 1 by omega, lets] at hls; cases hls
    | cons l ls =>
      rw [hls] at hu hcv
      have HLS := Lib.hid hls
      obtain ⟨bb, lb, u2, rfl, -, -, -⟩ := hu
      have hco := hcv.out
      clear hg3 hs3 hwo hcv hcc hs2 hsw2 hvf hls
      go_wp2_with fail
      refine hco.mono ?_
      rintro e w4 ⟨rfl, hb4⟩
      go_wp2_with fail
      go_ret2
      exact ⟨by rw [HV.out, HLS.out]; rfl, E3.trans (hb4.mono E3.size)⟩

theorem implPw_any (a b : Int) (v wv : Value) (js ws : List Int) (w : World) (hs : Sl w v js) (hsw : Sl w wv ws) (hl : js.length ≤ 9223372036854775807) (hlw : ws.length ≤ 9223372036854775807) (hT : Tab w) :
    Calls Tryd.prog 24 #[gv a b, v, wv] w fun e w' => e = .returned (.tuple #[.int .i64 (pwV a b js ws), .int .i64 (pwC a b js ws)]) ∧ Below w.heap.size w w' := by
  cases hi : isGr a b
  · have e : pwC a b js ws = 1 := by unfold pwC; rw [hi, giC_one js hi]; rfl
    rw [pwV_no (by rw [e]; decide), e]
    exact implPw_nogroup a b v wv js w hs hl hT hi
  · obtain ⟨k, p, rfl, rfl, hg⟩ := isGr_nat hi
    cases hw : wdOk js.length ws
    · have e := pwC_bad (k := k) (p := p) js ws hg hw
      rw [pwV_no (by rw [e]; decide), e]
      exact implPw_bad k p v wv js ws w hs hsw hlw hg hw
    · have e := pwC_ok (a := k) (b := p) (js := js) (ws := ws) hw
      by_cases h : giC k p js = 0
      · rw [pwV_yes (by rw [e]; exact h), e, h]
        obtain ⟨k', p', e1, e2, hg', hj, hq⟩ := giC_zero h
        obtain rfl : k = k' := by omega
        obtain rfl : p = p' := by omega
        match k, hg, hj, hq with
        | 0, hg, hj, hq => exact implPw_0 p v wv js ws w hs hsw hl hT hg hj hq hw
        | 1, hg, hj, hq => exact implPw_1 p v wv js ws w hs hsw hl hT hg hj hq hw
        | 2, hg, hj, hq => exact implPw_2 p v wv js ws w hs hsw hl hT hg hj hq hw
        | k + 3, hg, _, _ => simp [gOk] at hg
      · rw [pwV_no (by rw [e]; exact h), e]
        exact implPw_noset k p v wv js ws w hs hsw hl hlw hT hg hw h
end Go.Proofs.YtklgimikdnokcaaDoor
