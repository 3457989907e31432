/-
  spec.l05Girth and spec.WordGirth. (A tied seat of groups.)
-/
import Derived.Test.YtklgimikdnokcaaDoorVa
import Derived.Test.YtklgimikdnokcaaDoorNk
namespace Go.Proofs.YtklgimikdnokcaaDoor
set_option maxRecDepth 100000
open Go.RowKit

set_option maxHeartbeats 3200000 in
set_option maxRecDepth 100000 in
theorem l05Girth_near (k p cap : Nat) (a : Option Addr) (js : List Int) (w : World) (h : gOk k p = true) (hj : elOk (gOrd k p) js js.length = true) (hc : js.length = 0 ∨ ∃ b off, a = some ⟨b, off, none⟩ ∧ b < w.heap.size ∧ Cells w b off js) (hl : js.length ≤ 62) :
    Calls Tryd.prog 48 #[gv k p, .slice a js.length cap] w fun e w' => e = .returned (.int .i64 (wgG k p js 1 15 : Nat)) ∧ Below w.heap.size w w' := by
  have D0 : Below w.heap.size w (w.alloc (.cells #[.int .i64 k, .int .i64 p] 27)) := (Below.refl _ _).alloc (Nat.le_refl _) _
  have HB0 := Lib.hid (World.alloc_heap_new w (.cells #[.int .i64 k, .int .i64 p] 27))
  have ho := Lib.hid (l05Order_any k p (w.alloc (.cells #[.int .i64 k, .int .i64 p] 27)) h)
  have HI := Lib.hid (fun x y W (hx : x < gOrd k p) (hy : y < gOrd k p) => l05Times_any k p x y W h hx hy)
  have HML := Lib.hid (fun x y => @gMul_lt k p x y h)
  have HTL := Lib.hid (fun s t (ht : t < js.length) => @tgt_lt k p js s t h ht)
  have HFL := Lib.hid (fun x i (hx : x < gOrd k p) (hi : i < js.length) => flat_lt (m := js.length) hx hi)
  have HOA := Lib.hid (fun L => @out_all k p js L)
  have H1A := Lib.hid (@one_all k p js)
  have HJ := Lib.hid hj
  have HC := Lib.hid hc
  have hn := gOrd_le h
  have hn1 := gOrd_pos h
  obtain ⟨V, hV⟩ : ∃ V, V = wgG k p js 1 15 := ⟨_, rfl⟩
  rw [← hV]
  have HV := Lib.hid hV.symm
  clear hV
  obtain ⟨N, hN⟩ : ∃ N, N = gOrd k p * js.length := ⟨_, rfl⟩
  have hNle : N ≤ 3844 := by rw [hN]; exact Nat.mul_le_mul hn hl
  rw [← hN] at HTL HFL HOA H1A
  obtain ⟨n, hnn⟩ : ∃ n, n = gOrd k p := ⟨_, rfl⟩
  have hNN : (n : Int) * (js.length : Int) = (N : Int) := by rw [hN, hnn]; push_cast; rfl
  have HN := Lib.hid hN
  have hmk := run_mkBools N (by omega)
  rw [← hnn] at ho HI HML HJ hn hn1 HFL HN
  simp only [World.size_alloc] at ho
  clear hj hc hnn h hN
  simp only [gv] at *
  go_enter Tryd.func48, Tryd.ntmps48
  go_wp2_with fail
  refine ho.out.mono ?_
  rintro e w1 ⟨rfl, hb1⟩
  have s1 := hb1.size
  simp only [World.size_alloc] at s1
  clear ho
  go_wp2_with fail
  obtain ⟨gm, hgm⟩ : ∃ gm, gm = w1.heap.size := ⟨_, rfl⟩
  obtain ⟨w3, h3⟩ : ∃ w3, w3 = w1.alloc (.cells (boolsA (List.replicate N false)) 4) := ⟨_, rfl⟩
  have HM3 : Hid (BBlk w3 gm (boolsF N (oneB js 0))) := by show BBlk _ _ _; rw [h3, hgm, oneB_zero, boolsF_none]; exact BBlk.new w1 _
  have hb3 : Below w1.heap.size w1 w3 := by rw [h3]; exact (Below.refl _ _).alloc (Nat.le_refl _) _
  have E3 : Below (w.heap.size + 1) (w.alloc (.cells #[.int .i64 k, .int .i64 p] 27)) w3 := by have := hb1.trans (hb3.mono (by simpa using s1)); simpa using this
  have s3 : gm + 1 ≤ w3.heap.size := by rw [h3, hgm]; simp
  have g1 : w.heap.size + 1 ≤ gm := by omega
  rw [← h3, ← hgm]
  clear h3 hb3 hb1 hgm s1
  go_loopw [8] (fun i wr => ∃ t : Nat, i = .int .i64 t ∧ t ≤ js.length ∧ Hid (BBlk wr gm (boolsF N (oneB js t))) ∧ Below (w.heap.size + 1) (w.alloc (.cells #[.int .i64 k, .int .i64 p] 27)) wr ∧ gm + 1 ≤ wr.heap.size) (fun i _ => js.length - (intOf i).toNat)
  case atStart => exact ⟨0, rfl, Nat.zero_le _, HM3, E3, s3⟩
  case round =>
    clear HM3 E3 s3
    obtain ⟨t, rfl, htl, HM, hE, hs⟩ := hrel
    by_cases hlt : (t : Int) < js.length
    · have htl2 : t < js.length := by omega
      obtain ⟨b, off, rfl, hb, hcc⟩ : ∃ b off, a = some ⟨b, off, none⟩ ∧ b < w.heap.size ∧ Cells w b off js := by rcases HC.out with h | h <;> first | omega | exact h
      have hz : wr.cell? ⟨b, off + t, none⟩ = some (.int .i64 (el js t)) := (hE.cell (p := ⟨b, off + t, none⟩) (by simp; omega)).trans ((D0.cell (p := ⟨b, off + t, none⟩) hb).trans (hcc t htl2))
      have he := elOk_at HJ.out htl2
      obtain ⟨y, hy⟩ := Int.eq_ofNat_of_zero_le he.1
      have hen : en js t = y := by unfold en; rw [hy]; rfl
      rw [hy] at hz he
      have hyn : y < n := by omega
      obtain ⟨Z, hZ⟩ : ∃ Z, Z = y * js.length + t := ⟨_, rfl⟩
      have hZl : Z < N := by rw [hZ]; exact HFL.out y t hyn htl2
      have hZi : (y : Int) * (js.length : Int) + t = (Z : Int) := by rw [hZ]; push_cast; rfl
      have hym : y * js.length ≤ 3844 := by omega
      obtain ⟨Y, hY⟩ : ∃ Y, Y = y * js.length := ⟨_, rfl⟩
      have hYi : (y : Int) * (js.length : Int) = (Y : Int) := by rw [hY]; push_cast; rfl
      rw [← hY] at hym
      rw [hYi] at hZi
      have c4 := HM.out.cell (i := Z) (by rw [boolsF_length]; exact hZl)
      have f4 := HM.out.frozen Z
      have HS : Hid (BBlk (wr.setCell ⟨gm, Z, none⟩ (.bool true)) gm (boolsF N (oneB js (t + 1)))) := by
        show BBlk _ _ _
        rw [oneB_succ, hen, ← hZ, ← boolsF_set]
        exact HM.out.set Z true
      have hE4 := hE.setCell (p := ⟨gm, Z, none⟩) (by simpa using g1) (.bool true)
      have s4 : gm + 1 ≤ (wr.setCell ⟨gm, Z, none⟩ (.bool true)).heap.size := by simpa using hs
      have ht0 : (0 : Int) ≤ t := by omega
      have hZ0 : (0 : Int) ≤ Z := by omega
      have hZn : (Z : Int) < N := by omega
      clear hcc he hy hen hZ hY HM hE hs
      go_wp2_with fail
      go_roundw
      case rel => exact ⟨t + 1, by go_num, htl2, HS, hE4, s4⟩
      case measure => simp [intOf]; omega
    · obtain rfl : t = js.length := by omega
      rw [H1A.out] at HM
      go_wp2_with fail
      go_loopw [7, 9] (fun nw ln wr => ∃ L f g : Nat, nw = .slice (some ⟨g, 0, none⟩) N N ∧ ln = .int .i64 ((L : Int) + 2) ∧ L + f = 15 ∧ Hid (wgG k p js (L + 1) f = V) ∧ Hid (BBlk wr g (boolsF N (tbF k p js L))) ∧ Below (w.heap.size + 1) (w.alloc (.cells #[.int .i64 k, .int .i64 p] 27)) wr ∧ w.heap.size + 1 ≤ g) (fun _ ln _ => 17 - (intOf ln).toNat)
      case atStart => exact ⟨0, 15, gm, rfl, rfl, rfl, HV, HM, hE, g1⟩
      case round =>
        clear HV HM hE hs hlt htl g1
        obtain ⟨L, f, g, rfl, rfl, hLf, HV, HM, hE, g1⟩ := hrel
        cases f with
        | zero =>
          obtain rfl : L = 15 := by omega
          have hV0 : V = 0 := by rw [← HV.out]; rfl
          go_wp2_with fail
          go_ret
          exact ⟨rfl, D0.trans (hE.mono (by omega))⟩
        | succ f =>
          have hL15 : L < 15 := by omega
          have hdL : decide ((L : Int) + 2 ≤ 16) = true := by simp; omega
          have hg : g < wr.heap.size := HM.out.lt
          have HM3 := Lib.hid (HM.out.alloc (.cells (boolsA (List.replicate N false)) 4))
          have HG3 : Hid (BBlk (wr.alloc (.cells (boolsA (List.replicate N false)) 4)) wr.heap.size (boolsF N (outB k p js (tbF k p js L) 0))) := by
            show BBlk _ _ _
            rw [show outB k p js (tbF k p js L) 0 = fun _ => false from rfl, boolsF_none]; exact BBlk.new wr _
          have hE3 := hE.alloc (by omega) (.cells (boolsA (List.replicate N false)) 4)
          obtain ⟨wo, rfl⟩ : ∃ wo : World, wo = wr := ⟨_, rfl⟩
          clear HM
          go_wp2_with fail
          obtain ⟨g2, hg2⟩ : ∃ g2, g2 = wo.heap.size := ⟨_, rfl⟩
          obtain ⟨w5, h5⟩ : ∃ w5, w5 = wo.alloc (.cells (boolsA (List.replicate N false)) 4) := ⟨_, rfl⟩
          have g2l : w.heap.size + 1 ≤ g2 := by omega
          have gne : g ≠ g2 := by omega
          rw [← h5] at HM3 HG3 hE3
          rw [← hg2] at HG3
          rw [← h5, ← hg2]
          clear h5 hg2 hE hg
          go_loopw [11] (fun st wr => ∃ s : Nat, st = .int .i64 s ∧ s ≤ N ∧ Hid (BBlk wr g (boolsF N (tbF k p js L))) ∧ Hid (BBlk wr g2 (boolsF N (outB k p js (tbF k p js L) s))) ∧ Below (w.heap.size + 1) (w.alloc (.cells #[.int .i64 k, .int .i64 p] 27)) wr) (fun st _ => N - (intOf st).toNat)
          case atStart => exact ⟨0, rfl, Nat.zero_le _, HM3, HG3, hE3⟩
          case round =>
            clear HM3 HG3 hE3
            obtain ⟨s, rfl, hsN, HM, HG, hE⟩ := hrel
            by_cases hlt : (s : Int) < N
            · have hsl : s < N := by omega
              have hm0 : 0 < js.length := Nat.pos_of_ne_zero fun e => by have := HN.out; rw [e] at this; simp at this; omega
              have hmi : (1 : Int) ≤ js.length := by omega
              have hjs : ¬ js = [] := fun e => by rw [e] at hm0; simp at hm0
              go_wp2_with fail
              go_loopw [12] (fun i wr => ∃ t : Nat, i = .int .i64 t ∧ t ≤ js.length ∧ (t = 0 ∨ tbF k p js L s = true) ∧ Hid (BBlk wr g (boolsF N (tbF k p js L))) ∧ Hid (BBlk wr g2 (boolsF N (innB k p js (outB k p js (tbF k p js L) s) s t))) ∧ Below (w.heap.size + 1) (w.alloc (.cells #[.int .i64 k, .int .i64 p] 27)) wr) (fun i _ => js.length - (intOf i).toNat)
              case atStart => exact ⟨0, rfl, Nat.zero_le _, .inl rfl, HM, HG, hE⟩
              case round =>
                clear HM HG hE
                obtain ⟨t, rfl, htm, hto, HM, HG, hE⟩ := hrel
                have hcg := HM.out.cell (i := s) (by rw [boolsF_length]; exact hsl)
                rw [eb_boolsF N _ s hsl] at hcg
                have hs0 : (0 : Int) ≤ s := by omega
                by_cases hlt : (t : Int) < js.length
                · have htl : t < js.length := by omega
                  cases hT : tbF k p js L s with
                  | false =>
                    rw [hT] at hcg hto
                    obtain rfl : t = 0 := by simpa using hto
                    have HG2 : Hid (BBlk wr g2 (boolsF N (outB k p js (tbF k p js L) (s + 1)))) := by
                      show BBlk _ _ _
                      unfold outB
                      rw [if_neg (by rw [hT]; simp)]
                      exact HG.out
                    clear HG hT
                    go_wp2_with fail
                    go_roundw
                    case rel => exact ⟨s + 1, by go_num, hsl, HM, HG2, hE⟩
                    case measure => simp [intOf]; omega
                  | true =>
                    rw [hT] at hcg
                    have HTT := Lib.hid hT
                    clear hto hT
                    obtain ⟨b, off, rfl, hb, hcc⟩ : ∃ b off, a = some ⟨b, off, none⟩ ∧ b < w.heap.size ∧ Cells w b off js := by rcases HC.out with h | h <;> first | omega | exact h
                    have hql : s % js.length < js.length := Nat.mod_lt s hm0
                    have hxl : s / js.length < n := Nat.div_lt_of_lt_mul (by rw [Nat.mul_comm, ← HN.out]; exact hsl)
                    have hmod : (s : Int).tmod (js.length : Int) = ((s % js.length : Nat) : Int) := rfl
                    have hdiv : (s : Int).tdiv (js.length : Int) = ((s / js.length : Nat) : Int) := rfl
                    have HFO : Hid (fol k p js (s % js.length) t = (gMul k p (en js (s % js.length)) (en js t) != 0)) := rfl
                    have HTG : Hid (tgt k p js s t = gMul k p (s / js.length) (en js t) * js.length + t) := rfl
                    have hTL := HTL.out s t htl
                    have HIN : Hid (innB k p js (outB k p js (tbF k p js L) s) s (t + 1) = if fol k p js (s % js.length) t then fun z => innB k p js (outB k p js (tbF k p js L) s) s t z || z == tgt k p js s t else innB k p js (outB k p js (tbF k p js L) s) s t) := rfl
                    obtain ⟨q, hq⟩ : ∃ q, q = s % js.length := ⟨_, rfl⟩
                    obtain ⟨x, hx⟩ : ∃ x, x = s / js.length := ⟨_, rfl⟩
                    rw [← hq] at hql hmod HFO HIN
                    rw [← hx] at hxl hdiv HTG
                    have hzq := hcc q hql
                    have hzt := hcc t htl
                    have heq := elOk_at HJ.out hql
                    have het := elOk_at HJ.out htl
                    obtain ⟨u, hu⟩ := Int.eq_ofNat_of_zero_le heq.1
                    obtain ⟨y, hy⟩ := Int.eq_ofNat_of_zero_le het.1
                    have henq : en js q = u := by unfold en; rw [hu]; rfl
                    have hent : en js t = y := by unfold en; rw [hy]; rfl
                    rw [hu] at hzq heq
                    rw [hy] at hzt het
                    rw [henq, hent] at HFO
                    rw [hent] at HTG
                    have hul : u < n := by omega
                    have hyl : y < n := by omega
                    have HR : Hid (∀ W : World, Below (w.heap.size + 1) (w.alloc (.cells #[.int .i64 k, .int .i64 p] 27)) W → (W.cell? ⟨w.heap.size, 0, none⟩ = some (.int .i64 k) ∧ W.cell? ⟨w.heap.size, 1, none⟩ = some (.int .i64 p) ∧ W.cell? ⟨b, off + q, none⟩ = some (.int .i64 u) ∧ W.cell? ⟨b, off + t, none⟩ = some (.int .i64 y))) := fun W hW => by
                      obtain ⟨r0, r1, -, -⟩ := two_cells ((hW.block w.heap.size (by omega)).trans HB0.out)
                      exact ⟨r0, r1, (hW.cell (p := ⟨b, off + q, none⟩) (by simp; omega)).trans ((D0.cell (p := ⟨b, off + q, none⟩) hb).trans hzq), (hW.cell (p := ⟨b, off + t, none⟩) (by simp; omega)).trans ((D0.cell (p := ⟨b, off + t, none⟩) hb).trans hzt)⟩
                    have HW : Hid (∀ w4 : World, Below wr.drew.heap.size wr.drew w4 → BBlk w4 g (boolsF N (tbF k p js L)) ∧ BBlk w4 g2 (boolsF N (innB k p js (outB k p js (tbF k p js L) s) s t)) ∧ Below (w.heap.size + 1) (w.alloc (.cells #[.int .i64 k, .int .i64 p] 27)) w4) := fun w4 h4 => by
                      have h5 : Below wr.heap.size wr w4 := ((Below.refl _ _).drew).trans (h4.mono (by simp))
                      exact ⟨HM.out.belowAll h5, HG.out.belowAll h5, hE.trans (h5.mono (by have := hE.size; simp at this; omega))⟩
                    have HT1 := Lib.hid (fun W => HI.out u y W hul hyl)
                    have HT2 := Lib.hid (fun W => HI.out x y W hxl hyl)
                    obtain ⟨r0, r1, r2, r3⟩ := HR.out wr hE
                    obtain ⟨z1, hz1⟩ : ∃ z1, z1 = gMul k p u y := ⟨_, rfl⟩
                    rw [← hz1] at HT1 HFO
                    obtain ⟨z2, hz2⟩ : ∃ z2, z2 = gMul k p x y := ⟨_, rfl⟩
                    have hz2l : z2 < n := by rw [hz2]; exact HML.out x y
                    rw [← hz2] at HT2 HTG
                    have hq0 : (0 : Int) ≤ q := by omega
                    have hqi : (q : Int) < js.length := by omega
                    have ht0 : (0 : Int) ≤ t := by omega
                    have hx0 : (0 : Int) ≤ x := by omega
                    have hwx : IntKind.i64.wrap (x : Int) = (x : Int) := IntWalk.i64_in _ (by omega)
                    clear hcc hq hx hzq hzt heq het hu hy henq hent hz1 hz2
                    clear HM HG hE
                    by_cases hz : z1 = 0
                    · subst hz
                      simp only [Int.natCast_zero] at HT1
                      go_wp2_with fail
                      go_region_held3 (fun w' => w'.cell? ⟨w.heap.size, 0, none⟩ = some (.int .i64 k) ∧ w'.cell? ⟨w.heap.size, 1, none⟩ = some (.int .i64 p) ∧ w'.cell? ⟨b, off + q, none⟩ = some (.int .i64 u) ∧ w'.cell? ⟨b, off + t, none⟩ = some (.int .i64 y))
                        (go_keep)
                        ((go_at_call 41; with_reducible refine (HT1.out _).mono ?_; rintro e w4 ⟨rfl, hb4⟩; obtain ⟨hM4, hG4, hE4⟩ := HW.out w4 hb4; obtain ⟨r0, r1, r2, r3⟩ := HR.out w4 hE4; clear hb4))
                      all_goals
                        have HG5 : Hid (BBlk w4 g2 (boolsF N (innB k p js (outB k p js (tbF k p js L) s) s (t + 1)))) := by
                          show BBlk _ _ _
                          rw [HIN.out, HFO.out]
                          exact hG4
                        have HM4 := Lib.hid hM4
                        clear hM4 hG4 HW HT1 r0 r1 r2 r3 hcg HIN HFO
                        go_wp2_with fail
                        go_roundw
                        case rel => first | exact ⟨t + 1, by go_num, htl, .inr trivial, HM4, HG5, hE4⟩ | exact ⟨t + 1, by go_num, htl, .inr HTT.out, HM4, HG5, hE4⟩
                        case measure => simp [intOf]; omega
                    · have hzb : ((z1 : Int) == 0) = false := by simp; omega
                      have HFT : Hid (fol k p js q t = true) := by show _ = _; rw [HFO.out]; simp; omega
                      clear hz
                      go_wp2_with fail
                      go_region_held3 (fun w' => w'.cell? ⟨w.heap.size, 0, none⟩ = some (.int .i64 k) ∧ w'.cell? ⟨w.heap.size, 1, none⟩ = some (.int .i64 p) ∧ w'.cell? ⟨b, off + q, none⟩ = some (.int .i64 u) ∧ w'.cell? ⟨b, off + t, none⟩ = some (.int .i64 y))
                        (go_keep)
                        ((go_at_call 41; with_reducible refine (HT1.out _).mono ?_; rintro e w4 ⟨rfl, hb4⟩; obtain ⟨hM4, hG4, hE4⟩ := HW.out w4 hb4; obtain ⟨r0, r1, r2, r3⟩ := HR.out w4 hE4; clear hb4))
                      all_goals
                        have HM4 := Lib.hid hM4; have HG4 := Lib.hid hG4
                        have HW5 : Hid (∀ w5 : World, Below w4.drew.heap.size w4.drew w5 → BBlk w5 g (boolsF N (tbF k p js L)) ∧ BBlk w5 g2 (boolsF N (innB k p js (outB k p js (tbF k p js L) s) s t)) ∧ Below (w.heap.size + 1) (w.alloc (.cells #[.int .i64 k, .int .i64 p] 27)) w5) := fun w5 h5 => by
                          have h6 : Below w4.heap.size w4 w5 := ((Below.refl _ _).drew).trans (h5.mono (by simp))
                          exact ⟨HM4.out.belowAll h6, HG4.out.belowAll h6, hE4.trans (h6.mono (by have := hE4.size; simp at this; omega))⟩
                        clear hM4 hG4 HW HT1 hcg HFO HM4 HG4 hE4 hzb
                        go_wp2_with fail
                        go_region_held3 (fun w' => w'.cell? ⟨w.heap.size, 0, none⟩ = some (.int .i64 k) ∧ w'.cell? ⟨w.heap.size, 1, none⟩ = some (.int .i64 p) ∧ w'.cell? ⟨b, off + q, none⟩ = some (.int .i64 u) ∧ w'.cell? ⟨b, off + t, none⟩ = some (.int .i64 y))
                          (go_keep)
                          ((go_at_call 41; with_reducible refine (HT2.out _).mono ?_; rintro e w5 ⟨rfl, hb5⟩; obtain ⟨hM5, hG5, hE5⟩ := HW5.out w5 hb5; obtain ⟨r0, r1, r2, r3⟩ := HR.out w5 hE5; clear hb5))
                        all_goals
                          obtain ⟨Z, hZ⟩ : ∃ Z, Z = tgt k p js s t := ⟨_, rfl⟩
                          have hZl : Z < N := by rw [hZ]; exact hTL
                          have HIS : Hid (boolsF N (innB k p js (outB k p js (tbF k p js L) s) s (t + 1)) = (boolsF N (innB k p js (outB k p js (tbF k p js L) s) s t)).set Z true) := by
                            show _ = _
                            rw [boolsF_set, HIN.out, if_pos HFT.out, hZ]
                          have hZe := hZ.trans HTG.out
                          obtain ⟨Y, hY⟩ : ∃ Y, Y = z2 * js.length := ⟨_, rfl⟩
                          have hYi : (z2 : Int) * (js.length : Int) = (Y : Int) := by rw [hY]; push_cast; rfl
                          rw [← hY] at hZe
                          have hZi : (Y : Int) + t = (Z : Int) := by omega
                          have hym : Y ≤ 3844 := by omega
                          have c5 := hG5.cell (i := Z) (by rw [boolsF_length]; exact hZl)
                          have f5 := hG5.frozen Z
                          have HG6 : Hid (BBlk (w5.setCell ⟨g2, Z, none⟩ (.bool true)) g2 (boolsF N (innB k p js (outB k p js (tbF k p js L) s) s (t + 1)))) := by
                            show BBlk _ _ _
                            rw [HIS.out]
                            exact hG5.set Z true
                          have HM6 : Hid (BBlk (w5.setCell ⟨g2, Z, none⟩ (.bool true)) g (boolsF N (tbF k p js L))) := (Below.heap_setCell _ _ _ _ gne).trans hM5
                          have hE6 := hE5.setCell (p := ⟨g2, Z, none⟩) (by simpa using g2l) (.bool true)
                          have hZ0 : (0 : Int) ≤ Z := by omega
                          have hZn : (Z : Int) < N := by omega
                          clear hM5 hG5 hE5 HW5 HT2 HIN HFT HTG HIS hZ hZe hY r0 r1 r2 r3
                          go_wp2_with fail
                          go_roundw
                          case rel => first | exact ⟨t + 1, by go_num, htl, .inr trivial, HM6, HG6, hE6⟩ | exact ⟨t + 1, by go_num, htl, .inr HTT.out, HM6, HG6, hE6⟩
                          case measure => simp [intOf]; omega
                · obtain rfl : t = js.length := by omega
                  have hT : tbF k p js L s = true := by rcases hto with h | h <;> first | omega | exact h
                  have HG2 : Hid (BBlk wr g2 (boolsF N (outB k p js (tbF k p js L) (s + 1)))) := by
                    show BBlk _ _ _
                    unfold outB
                    rw [if_pos hT]
                    exact HG.out
                  clear HG hT hto
                  go_wp2_with fail
                  go_roundw
                  case rel => exact ⟨s + 1, by go_num, hsl, HM, HG2, hE⟩
                  case measure => simp [intOf]; omega
            · obtain rfl : N = s := by omega
              rw [HOA.out] at HG
              clear HM
              obtain ⟨wo, rfl⟩ : ∃ wo : World, wo = wr := ⟨_, rfl⟩
              go_wp2_with fail
              go_loop [14] (fun i => ∃ t : Nat, i = .int .i64 t ∧ t ≤ js.length ∧ Hid (∀ i, i < t → wgB k p js (L + 1) 0 i = false)) (fun i => js.length - (intOf i).toNat)
              case atStart => exact ⟨0, rfl, Nat.zero_le _, fun i hi => by omega⟩
              case round =>
                obtain ⟨t, rfl, htm, HB⟩ := hrel
                by_cases hlt : (t : Int) < js.length
                · have htl : t < js.length := by omega
                  have htN : t < N := by
                    have h1 : 1 * js.length ≤ n * js.length := Nat.mul_le_mul_right _ hn1
                    rw [HN.out]; omega
                  have hcg := HG.out.cell (i := t) (by rw [boolsF_length]; exact htN)
                  rw [eb_boolsF N _ t htN, tbF_row htl] at hcg
                  have ht0 : (0 : Int) ≤ t := by omega
                  have htn : (t : Int) < N := by omega
                  cases hT : wgB k p js (L + 1) 0 t with
                  | true =>
                    rw [hT] at hcg
                    have HVV : Hid (V = L + 2) := by
                      show _ = _
                      rw [← HV.out]
                      exact wgG_yes (wgF_iff.2 ⟨t, htl, hT⟩)
                    clear hT
                    go_wp2_with fail
                    go_ret
                    exact ⟨by show Ending.returned (.int .i64 ((L : Int) + 2)) = _; rw [HVV.out]; push_cast; rfl, D0.trans (hE.mono (by omega))⟩
                  | false =>
                    rw [hT] at hcg
                    have HB2 : Hid (∀ i, i < t + 1 → wgB k p js (L + 1) 0 i = false) := fun i hi => by
                      rcases Nat.lt_or_ge i t with h | h
                      · exact HB.out i h
                      · obtain rfl : i = t := by omega
                        exact hT
                    clear hT HB
                    go_wp2_with fail
                    go_round
                    case rel => exact ⟨t + 1, by go_num, htl, HB2⟩
                    case measure => simp [intOf]; omega
                · obtain rfl : t = js.length := by omega
                  have HV2 : Hid (wgG k p js (L + 1 + 1) f = V) := by
                    show _ = _
                    rw [← HV.out]
                    exact (wgG_no (wgF_no HB.out)).symm
                  clear HV HB
                  go_wp2_with fail
                  go_roundw
                  case rel => exact ⟨L + 1, f, g2, rfl, by go_num, by omega, HV2, HG, hE, g2l⟩
                  case measure => simp [intOf]; omega

end Go.Proofs.YtklgimikdnokcaaDoor
