/-
  spec.l08Reach: the greatest distance of a digraph.
-/
import Derived.Test.YtbncfhmpkoaffaaDoorRp8
import Derived.Test.YtbncfhmpkoaffaaDoorRw8
import Derived.Deep.LoopGhost
namespace Go.Proofs.YtbncfhmpkoaffaaDoor
set_option maxRecDepth 100000
set_option maxRecDepth 100000
open Go.RowKit

/-- The first k numbers -1, zeros behind. -/
def neg1 (k n : Nat) : List Int := List.replicate k (-1) ++ List.replicate (n - k) 0
theorem neg1_length {k n : Nat} (h : k ≤ n) : (neg1 k n).length = n := by simp [neg1]; omega
theorem neg1_zero (n : Nat) : neg1 0 n = List.replicate n 0 := by simp [neg1]
theorem neg1_all (n : Nat) : neg1 n n = List.replicate n (-1) := by simp [neg1]
theorem neg1_set {k n : Nat} (h : k < n) : (neg1 k n).set k (-1) = neg1 (k + 1) n := by
  unfold neg1
  obtain ⟨m, hm⟩ : ∃ m, n - k = m + 1 := ⟨n - k - 1, by omega⟩
  rw [List.set_append_right _ _ (by simp), List.length_replicate, Nat.sub_self, hm, show n - (k + 1) = m by omega, List.replicate_succ, List.set_cons_zero, List.replicate_succ', List.append_assoc]
  rfl

set_option maxHeartbeats 6400000 in
theorem l08Reach_some (b off cap : Nat) (zs : List Int) (w : World) (hb : b < w.heap.size) (hc : Cells w b off zs) (hg : DgOk (zs.length : Int) zs) :
    Calls Tryd.prog 57 #[.agg #[.int .i64 zs.length, .slice (some ⟨b, off, none⟩) zs.length cap]] w fun e w' => e = .returned (.int .i64 (rcD zs)) ∧ Below w.heap.size w w' := by
  obtain ⟨W0, hW0⟩ : ∃ W, W = w.alloc (.cells #[.int .i64 zs.length, .slice (some ⟨b, off, none⟩) zs.length cap] 29) := ⟨_, rfl⟩
  have D0 : Below w.heap.size w W0 := by rw [hW0]; exact (Below.refl _ _).alloc (Nat.le_refl _) _
  have HS0 : Hid (W0.heap.size = w.heap.size + 1) := by show _ = _; rw [hW0]; simp
  have HG0 : Hid (GBox W0 w.heap.size zs.length b off cap zs) := by rw [hW0]; exact GBox.newD (n := zs.length) (cap := cap) hb hc
  obtain ⟨i0, hi, hz0, hz1, hz2⟩ := info_parts mk_info
  have HI := Lib.hid hi; have HI0 := Lib.hid hz0; have HI1 := Lib.hid hz1; have HI2 := Lib.hid hz2
  have hl62 := hg.le
  have HMK := Lib.hid (run_mkInts zs.length (by omega))
  have HG := Lib.hid hg
  have HD := Lib.hid D0
  clear hg hc hi hz0 hz1 hz2 D0
  go_enter Tryd.func57, Tryd.ntmps57
  go_wp2_with fail
  rw [← hW0]
  clear hW0
  go_loopw [3, 4, 5, 6, 7, 8, 9] (fun m t _ _ _ _ _ wr => ∃ v : Nat, v ≤ zs.length ∧ t = .int .i64 v ∧ m = .int .i64 (mE zs v) ∧ Hid (aR zs v = true) ∧ Below W0.heap.size W0 wr) (fun _ t _ _ _ _ _ _ => zs.length - (intOf t).toNat)
  case atStart => exact ⟨0, Nat.zero_le _, rfl, rfl, rfl, Below.refl _ _⟩
  case round =>
    obtain ⟨v, hv, rfl, rfl, HA, hB⟩ := hrel
    have G0 := HG0.out.below (hB.mono (by have := HS0.out; omega))
    have b0 := G0.b0
    by_cases hlt : v < zs.length
    · have hlti : (v : Int) < zs.length := by omega
      have hv0 : (0 : Int) ≤ v := by omega
      have hmk := HMK.out
      obtain ⟨gd, hgd⟩ : ∃ g, g = wr.heap.size := ⟨_, rfl⟩
      obtain ⟨W2, hW2⟩ : ∃ W, W = (wr.alloc (.cells (intsA (List.replicate zs.length 0)) 2)).alloc (.cells #[.int .i64 (v : Int)] 2) := ⟨_, rfl⟩
      have hW0r : W0.heap.size ≤ gd := by rw [hgd]; exact hB.size
      have HD2 : Hid (Blk W2 gd (neg1 0 zs.length)) := by
        show Blk _ _ _
        rw [neg1_zero, hW2, hgd]
        exact (Blk.new wr _).alloc _
      have HL2 : Hid (Own W2 W0.heap.size (.slice (some ⟨gd + 1, 0, none⟩) [v].length 1) (nI [v])) := by
        show Own _ _ _ _
        rw [hW2, hgd]
        have h := Blk.new (wr.alloc (.cells (intsA (List.replicate zs.length 0)) 2)) [(v : Int)]
        rw [World.size_alloc] at h
        exact Own.of_blk h (by omega) (by rw [nI_length]; unfold maxLen; simp)
      have B2 : Below W0.heap.size W0 W2 := by rw [hW2]; exact (hB.alloc hB.size _).alloc (by simp; have := hB.size; omega) _
      have s2 : gd + 2 ≤ W2.heap.size := by rw [hW2, hgd]; simp
      obtain ⟨wo, rfl⟩ : ∃ wo : World, wo = wr := ⟨_, rfl⟩
      go_wp2_with fail
      rw [← hW2, ← hgd]
      clear hW2 hmk b0 hB G0 hgd
      go_loopw [7] (fun t wr => ∃ k : Nat, k ≤ zs.length ∧ t = .int .i64 k ∧ Hid (Blk wr gd (neg1 k zs.length)) ∧ Hid (Own wr W0.heap.size (.slice (some ⟨gd + 1, 0, none⟩) [v].length 1) (nI [v])) ∧ Below W0.heap.size W0 wr ∧ gd + 2 ≤ wr.heap.size) (fun t _ => zs.length - (intOf t).toNat)
      case atStart => exact ⟨0, Nat.zero_le _, rfl, HD2, HL2, B2, s2⟩
      case round =>
        clear HD2 HL2 B2 s2
        obtain ⟨k, hk, rfl, HD2, HL2, hB2, s2⟩ := hrel
        by_cases hltk : k < zs.length
        · have hltki : (k : Int) < zs.length := by omega
          have hk0 : (0 : Int) ≤ k := by omega
          have c1 : wr.cell? ⟨gd, k, none⟩ = some (.int .i64 (el (neg1 k zs.length) k)) := HD2.out.cell (by rw [neg1_length hk]; exact hltk)
          have f1 : wr.frozen? ⟨gd, k, none⟩ = false := HD2.out.frozen k
          have HD3 : Hid (Blk (wr.setCell ⟨gd, k, none⟩ (.int .i64 (-1))) gd (neg1 (k + 1) zs.length)) := by show Blk _ _ _; rw [← neg1_set hltk]; exact HD2.out.set k _
          have HL3 : Hid (Own (wr.setCell ⟨gd, k, none⟩ (.int .i64 (-1))) W0.heap.size (.slice (some ⟨gd + 1, 0, none⟩) [v].length 1) (nI [v])) := HL2.out.kept (grown_set ⟨rfl, rfl, rfl, Nat.le_refl _, fun _ _ _ => rfl⟩ gd k _) (.inr (by simp [Value.ownBlock]))
          have B3 := hB2.setCell (p := ⟨gd, k, none⟩) hW0r (.int .i64 (-1))
          go_wp2_with fail
          go_roundw
          case rel => exact ⟨k + 1, by omega, by go_num, HD3, HL3, B3, by simpa using s2⟩
          case measure => simp [intOf]; omega
        · obtain rfl : k = zs.length := by omega
          have c1 : wr.cell? ⟨gd, v, none⟩ = some (.int .i64 (el (neg1 zs.length zs.length) v)) := HD2.out.cell (by rw [neg1_length hk]; exact hlt)
          have f1 : wr.frozen? ⟨gd, v, none⟩ = false := HD2.out.frozen v
          have HD3 : Hid (Blk (wr.setCell ⟨gd, v, none⟩ (.int .i64 0)) gd ((List.replicate zs.length (-1)).set v 0)) := by show Blk _ _ _; rw [← neg1_all]; exact HD2.out.set v _
          have HL3 : Hid (Own (wr.setCell ⟨gd, v, none⟩ (.int .i64 0)) W0.heap.size (.slice (some ⟨gd + 1, 0, none⟩) [v].length 1) (nI [v])) := HL2.out.kept (grown_set ⟨rfl, rfl, rfl, Nat.le_refl _, fun _ _ _ => rfl⟩ gd v _) (.inr (by simp [Value.ownBlock]))
          have B3 := hB2.setCell (p := ⟨gd, v, none⟩) hW0r (.int .i64 0)
          have Q3 := Lib.hid (QInv.start (R := Rw zs v 0) hlt)
          have s3 : gd + 2 ≤ (wr.setCell ⟨gd, v, none⟩ (.int .i64 0)).heap.size := by simpa using s2
          obtain ⟨W3, hW3⟩ : ∃ W, W = wr.setCell ⟨gd, v, none⟩ (.int .i64 0) := ⟨_, rfl⟩
          rw [← hW3] at HD3 HL3 B3 s3
          go_wp2_with fail
          rw [← hW3]
          clear hW3 c1 f1 HD2 HL2 hB2 s2
          go_loopw [6, 8, 9] (fun ul i _ wr => ∃ (Q : List Nat) (D : List Int) (k gl capl : Nat), i = .int .i64 k ∧ ul = .slice (some ⟨gl, 0, none⟩) Q.length capl ∧ k ≤ Q.length ∧ Hid (QInv (Rw zs v 0) zs.length v D Q k 0) ∧ Hid (Blk wr gd D) ∧ Hid (Own wr W0.heap.size (.slice (some ⟨gl, 0, none⟩) Q.length capl) (nI Q)) ∧ gl ≠ gd ∧ Below W0.heap.size W0 wr) (fun _ i _ _ => zs.length - (intOf i).toNat)
          case atStart => exact ⟨[v], _, 0, gd + 1, 1, rfl, rfl, by simp, Q3, HD3, HL3, by omega, B3⟩
          case round =>
            clear HD3 HL3 B3 Q3 s3
            obtain ⟨Q, D, k, gl, capl, rfl, rfl, hkQ, HQ, HDk, HL, hne, hB⟩ := hrel
            have hql := HQ.out.qlen
            by_cases hkq : k < Q.length
            · have hkqi : (k : Int) < Q.length := by omega
              obtain ⟨x, hx⟩ : ∃ x, Q[k]? = some x := ⟨_, List.getElem?_eq_getElem hkq⟩
              have hxn := HQ.out.qlt x (List.mem_of_getElem? hx)
              have hk0 : (0 : Int) ≤ k := by omega
              obtain ⟨wo2, rfl⟩ : ∃ wo2 : World, wo2 = wr := ⟨_, rfl⟩
              go_wp2_with fail
              go_loopg [6, 9] zs.length (fun gg ul t wr => ∃ (Q : List Nat) (D : List Int) (y gl capl : Nat), gg = zs.length - y ∧ t = .int .i64 y ∧ ul = .slice (some ⟨gl, 0, none⟩) Q.length capl ∧ y ≤ zs.length ∧ Q[k]? = some x ∧ Hid (QInv (Rw zs v 0) zs.length v D Q k y) ∧ Hid (Blk wr gd D) ∧ Hid (Own wr W0.heap.size (.slice (some ⟨gl, 0, none⟩) Q.length capl) (nI Q)) ∧ gl ≠ gd ∧ Below W0.heap.size W0 wr)
              case atStart => exact ⟨Q, D, 0, gl, capl, rfl, rfl, rfl, Nat.zero_le _, hx, HQ, HDk, HL, hne, hB⟩
              case round =>
                clear HQ HDk HL hne hB hx hql hkq hkqi hkQ
                obtain ⟨Q, D, y, gl, capl, hgk, rfl, rfl, hy, hx, HQ, HDk, HL, hne, hB⟩ := hrel
                have G0 := HG0.out.below (hB.mono (by have := HS0.out; omega))
                have b0 := G0.b0
                have b1 := G0.b1
                have hql := HQ.out.qlen
                by_cases hlty : y < zs.length
                · have hltyi : (y : Int) < zs.length := by omega
                  have hlo : wr.ownsRow W0.heap.size 2 1 (.slice (some ⟨gl, 0, none⟩) Q.length capl) Q.length ((nI Q).map (Value.int .i64)) := by have := HL.out; unfold Own at this; rw [nI_length] at this; exact this
                  have hkl : k < Q.length := by rcases List.getElem?_eq_some_iff.1 hx with ⟨h, _⟩; exact h
                  have hcl : wr.cell? ⟨gl, k, none⟩ = some (.int .i64 (x : Int)) := (World.ownsRow.cellAt hlo k (by omega)).trans ((map_at _ k (by rw [nI_length]; omega)).trans (by rw [nI_at hx]))
                  have hoy : wr.cell? ⟨gd, y, none⟩ = some (.int .i64 (el D y)) := HDk.out.cell (by rw [HQ.out.len]; exact hlty)
                  have hgl := (World.ownsRow.lt hlo gl rfl).2
                  have hgd := HDk.out.lt
                  have hy0 : (0 : Int) ≤ y := by omega
                  have hkli : (k : Int) < Q.length := by omega
                  have GD : GBox wr.drew w.heap.size zs.length b off cap zs := G0.drewN 1
                  have hs0 := HS0.out
                  have hbs := hB.size
                  have HB := Lib.hid hB
                  clear hlo hB G0
                  obtain ⟨bit, hbit⟩ : ∃ bit, (nat zs x).testBit y = bit := ⟨_, rfl⟩
                  have hcall := Lib.hid fun W (G : GBox W w.heap.size zs.length b off cap zs) => hasD_rows HG.out x y (cap := cap) W G.lb G.cells hxn (by omega) bit hbit
                  have HBIT := Lib.hid hbit
                  obtain ⟨dy, hdy⟩ : ∃ dy, dy = el D y := ⟨_, rfl⟩
                  rw [← hdy] at hoy
                  have HDY := Lib.hid hdy
                  have HB1 : Hid (Below wr.heap.size wr wr.drew) := (Below.refl _ _).drew
                  clear hbit hdy
                  go_upto_region 18 with fail
                  go_cut [58] (fun t wx => t = .bool (bit && decide (dy < 0)) ∧ Below wr.heap.size wr wx)
                  case first =>
                    cases bit with
                    | false =>
                      first | (go_region_with (go_at_call 61; refine (hcall.out _ GD).mono ?_; rintro e w2 ⟨rfl, hb2⟩; have hB2 := HB1.out.trans (hb2.mono (by simp)); have G2 : GBox w2 w.heap.size zs.length b off cap zs := GD.below (hb2.mono (by simp; omega)); have k0 := G2.b0; have k1 := G2.b1; have k2 : w2.cell? ⟨gl, k, none⟩ = some (.int .i64 (x : Int)) := (hb2.cell (p := ⟨gl, k, none⟩) (by simpa using hgl)).trans (by simp [hcl]); have k3 : w2.cell? ⟨gd, y, none⟩ = some (.int .i64 dy) := (hb2.cell (p := ⟨gd, y, none⟩) (by simpa using hgd)).trans (by simp [hoy]))) | fail
                      all_goals
                        go_wp2_with fail
                        go_meet
                        exact ⟨rfl, by assumption⟩
                    | true =>
                      first | (go_region_with (go_at_call 61; refine (hcall.out _ GD).mono ?_; rintro e w2 ⟨rfl, hb2⟩; have hB2 := HB1.out.trans (hb2.mono (by simp)); have G2 : GBox w2 w.heap.size zs.length b off cap zs := GD.below (hb2.mono (by simp; omega)); have k0 := G2.b0; have k1 := G2.b1; have k2 : w2.cell? ⟨gl, k, none⟩ = some (.int .i64 (x : Int)) := (hb2.cell (p := ⟨gl, k, none⟩) (by simpa using hgl)).trans (by simp [hcl]); have k3 : w2.cell? ⟨gd, y, none⟩ = some (.int .i64 dy) := (hb2.cell (p := ⟨gd, y, none⟩) (by simpa using hgd)).trans (by simp [hoy]))) | fail
                      all_goals
                        go_wp2_with fail
                        go_meet
                        exact ⟨by simp, by assumption⟩
                  case rest =>
                    obtain ⟨rfl, hcb⟩ := hcut
                    obtain ⟨wq, rfl⟩ : ∃ wq : World, wq = wc := ⟨_, rfl⟩
                    have HDc : Hid (Blk wq gd D) := HDk.out.belowAll hcb
                    have HLc : Hid (Own wq W0.heap.size (.slice (some ⟨gl, 0, none⟩) Q.length capl) (nI Q)) := HL.out.below hcb
                    have HBc := Lib.hid (HB.out.trans (hcb.mono HB.out.size))
                    clear HDk HL HB HB1 GD b0 b1 hcl hoy hgl hgd hs0 hbs hcb hcall
                    by_cases hj : bit = true ∧ dy < 0
                    · obtain ⟨rfl, hdn⟩ := hj
                      have hjt : (true && decide (dy < 0)) = true := by simpa using hdn
                      rw [hjt]
                      clear hjt
                      have hxd := (HQ.out.mem x hxn).2 (List.mem_of_getElem? hx)
                      have hfew := HQ.out.few x hxn
                      obtain ⟨dx, hdx⟩ : ∃ dx, dx = el D x := ⟨_, rfl⟩
                      have hbt : bt (el zs x) y = true := HBIT.out
                      have HN := Lib.hid (HQ.out.push hx hlty (by rw [Rw_zero]; exact hbt) (by rw [← HDY.out]; exact hdn))
                      have hox : wq.cell? ⟨gd, x, none⟩ = some (.int .i64 dx) := by rw [hdx]; exact HDc.out.cell (by rw [HQ.out.len]; exact hxn)
                      have hoy : wq.cell? ⟨gd, y, none⟩ = some (.int .i64 dy) := by rw [HDY.out]; exact HDc.out.cell (by rw [HQ.out.len]; exact hlty)
                      have hfy : wq.frozen? ⟨gd, y, none⟩ = false := HDc.out.frozen y
                      have hlo : wq.ownsRow W0.heap.size 2 1 (.slice (some ⟨gl, 0, none⟩) Q.length capl) Q.length ((nI Q).map (Value.int .i64)) := by have := HLc.out; unfold Own at this; rw [nI_length] at this; exact this
                      have hcl : wq.cell? ⟨gl, k, none⟩ = some (.int .i64 (x : Int)) := (World.ownsRow.cellAt hlo k (by omega)).trans ((map_at _ k (by rw [nI_length]; omega)).trans (by rw [nI_at hx]))
                      rw [← hdx] at HN hfew hxd
                      have hw : IntKind.i64.wrap (dx + 1) = dx + 1 := IntWalk.i64_in _ ⟨by omega, by omega⟩
                      have hx0 : (0 : Int) ≤ x := by omega
                      have hxl : (x : Int) < zs.length := by omega
                      obtain ⟨d1, hd1⟩ : ∃ d1, d1 = dx + 1 := ⟨_, rfl⟩
                      have HD1 := Lib.hid hd1
                      rw [← hd1] at HN
                      obtain ⟨W4, hW4⟩ : ∃ W, W = wq.setCell ⟨gd, y, none⟩ (.int .i64 (dx + 1)) := ⟨_, rfl⟩
                      have HD4 : Hid (Blk W4 gd (D.set y d1)) := by show Blk _ _ _; rw [hW4, hd1]; exact HDc.out.set y _
                      have HL4 : Hid (Own W4 W0.heap.size (.slice (some ⟨gl, 0, none⟩) Q.length capl) (nI Q)) := by rw [hW4]; exact HLc.out.kept (grown_set ⟨rfl, rfl, rfl, Nat.le_refl _, fun _ _ _ => rfl⟩ gd y _) (.inr (by simp [Value.ownBlock]; exact hne))
                      have HB4 : Hid (Below W0.heap.size W0 W4) := by rw [hW4]; exact HBc.out.setCell (p := ⟨gd, y, none⟩) hW0r _
                      have HLW : Hid (W4.ownsRow W0.heap.size 2 1 (.slice (some ⟨gl, 0, none⟩) Q.length capl) Q.length ((nI Q).map (Value.int .i64))) := by
                        have := HL4.out; unfold Own at this; rw [nI_length] at this; exact this
                      have HGD := Lib.hid HD4.out.lt
                      clear hd1 hdx hdn hbt hlo HDc HLc HBc
                      have hgy : ¬ gd = gl := fun e => hne e.symm
                      go_upto_region 20 with fail
                      rw [← hW4]
                      clear hW4 hox hoy hfy hcl
                      go_wp2_with (at_builtin; refine wpList_append_lies _ rfl (.tmp 70) (.tmp 72) 22 rfl W0.heap.size 2 i0 (.int .i64 0) 1 8 Tryd.underlying22 HI.out HI0.out HI1.out HI2.out rfl (by decide) (.slice (some ⟨gl, 0, none⟩) Q.length capl) Q.length _ rfl (World.ownsRow.alloc HLW.out _) ⟨W4.heap.size, 0, none⟩ 1 1 [.int .i64 y] rfl rfl (cell_one_new _ _ _) (by simp [Value.oneCell']) (by decide) (by unfold maxLen; omega) (by omega) (by have := HB4.out.size; simp; omega) (W4.heap.size + 1) (by simp) ?_; intro gg cp w3 hown3 hgr3 hat3 hlt3; have HO3 := Lib.hid hown3; have HG3 := Lib.hid hgr3; have HA3 := Lib.hid hat3; clear hown3 hgr3 hat3)
                      have hgd4 := HGD.out
                      have hne3 : gg ≠ gd := by
                        rcases HA3.out with h | h
                        · have : gl = gg := by simpa [Value.ownBlock] using h
                          omega
                        · omega
                      have HD5 : Hid (Blk w3 gd (D.set y d1)) := (HG3.out.block gd (by simp; omega) (fun e => by simp [Value.ownBlock] at e; omega)).trans (HD4.out.alloc _)
                      have HL5 : Hid (Own w3 W0.heap.size (.slice (some ⟨gg, 0, none⟩) (Q ++ [y]).length cp) (nI (Q ++ [y]))) := by
                        show World.ownsRow _ _ _ _ _ _ _
                        rw [nI_length, nI_append, List.map_append, List.length_append]
                        exact HO3.out
                      have B5 : Below W0.heap.size W0 w3 := (HB4.out.alloc HB4.out.size _).grown HG3.out (by have := HB4.out.size; simp; omega) (fun q e => by cases e; exact (World.ownsRow.lt HLW.out gl rfl).1)
                      have hxq : (Q ++ [y])[k]? = some x := by
                        rw [List.getElem?_append_left hkl]; exact hx
                      clear HO3 HG3 HA3 HLW HL4 HD4 HB4
                      go_wp2_with fail
                      go_roundg (zs.length - (y + 1))
                      case measure => omega
                      case rel => exact ⟨Q ++ [y], D.set y d1, y + 1, gg, cp, rfl, by go_num, by rw [List.length_append]; rfl, by omega, hxq, HN, HD5, HL5, hne3, B5⟩
                    · have hjf : (bit && decide (dy < 0)) = false := by
                        cases bit with
                        | false => rfl
                        | true => simp at hj ⊢; omega
                      have HN := Lib.hid (HQ.out.skip hlty (fun x' hx' hR => by
                        rw [hx] at hx'; obtain rfl : x = x' := by simpa using hx'
                        rw [Rw_zero] at hR
                        have hb2 : bit = true := HBIT.out.symm.trans hR
                        rw [← HDY.out]
                        refine Int.not_lt.1 fun h => hj ⟨hb2, h⟩))
                      rw [hjf]
                      clear hjf hj HBIT
                      go_wp2_with fail
                      go_roundg (zs.length - (y + 1))
                      case measure => omega
                      case rel => exact ⟨Q, D, y + 1, gl, capl, rfl, by go_num, rfl, by omega, hx, HN, HDc, HLc, hne, HBc.out⟩
                · obtain rfl : y = zs.length := by omega
                  have HN := Lib.hid HQ.out.next
                  have hkl : k < Q.length := by rcases List.getElem?_eq_some_iff.1 hx with ⟨h, _⟩; exact h
                  clear HQ b1
                  go_wp2_with fail
                  go_roundw
                  case rel => exact ⟨Q, D, k + 1, gl, capl, by go_num, rfl, by omega, HN, HDk, HL, hne, hB⟩
                  case measure => simp [intOf]; omega
            · have hkl : k = Q.length := by omega
              have HQ2 : Hid (QInv (Rw zs v 0) zs.length v D Q Q.length 0) := by show QInv _ _ _ _ _ _ _; rw [← hkl]; exact HQ.out
              have HDD : Hid (D = dsL zs v) := HQ2.out.done hlt
              have G0 := HG0.out.below (hB.mono (by have := HS0.out; omega))
              have b0 := G0.b0
              have hkqi : ¬ (k : Int) < Q.length := by omega
              have HBF : Hid (Below w.heap.size w wr) := HD.out.trans (hB.mono HD.out.size)
              have HB := Lib.hid hB
              by_cases hful : zs.length ≤ Q.length
              · have hfi : ¬ (Q.length : Int) < zs.length := by omega
                have HAL : Hid (aR zs (v + 1) = true) := by show _ = _; rw [aR_succ, HA.out, HQ2.out.full HDD.out hful]; rfl
                have hqp : 0 < Q.length := by omega
                obtain ⟨q, hq⟩ : ∃ q, Q[Q.length - 1]? = some q := ⟨_, List.getElem?_eq_getElem (by omega)⟩
                have hqn := HQ2.out.qlt q (List.mem_of_getElem? hq)
                have hlast := HQ2.out.last hful (k := Q.length - 1) (by omega) hq
                have hlo : wr.ownsRow W0.heap.size 2 1 (.slice (some ⟨gl, 0, none⟩) Q.length capl) Q.length ((nI Q).map (Value.int .i64)) := by have := HL.out; unfold Own at this; rw [nI_length] at this; exact this
                have hcl : wr.cell? ⟨gl, Q.length - 1, none⟩ = some (.int .i64 (q : Int)) := (World.ownsRow.cellAt hlo _ (by omega)).trans ((map_at _ _ (by rw [nI_length]; omega)).trans (by rw [nI_at hq]))
                have hcd : wr.cell? ⟨gd, q, none⟩ = some (.int .i64 (mxF (dsL zs v) zs.length)) := by rw [← HDD.out, ← hlast]; exact HDk.out.cell (by rw [HQ2.out.len]; exact hqn)
                obtain ⟨kq, hkq2⟩ : ∃ kq, kq = Q.length - 1 := ⟨_, rfl⟩
                rw [← hkq2] at hcl
                have hq1 : (Q.length : Int) - 1 = (kq : Int) := by omega
                have hkq0 : (0 : Int) ≤ kq := by omega
                have hkq3 : (kq : Int) < Q.length := by omega
                have hq0 : (0 : Int) ≤ q := by omega
                have hqi : (q : Int) < zs.length := by omega
                obtain ⟨mx, hmx⟩ : ∃ mx, mx = mxF (dsL zs v) zs.length := ⟨_, rfl⟩
                obtain ⟨me, hme⟩ : ∃ me, me = mE zs v := ⟨_, rfl⟩
                have HME : Hid (mE zs (v + 1) = max me mx) := by show _ = _; rw [hmx, hme]; rfl
                rw [← hmx] at hcd
                rw [← hme]
                clear hlo hlast hkq2 HQ HQ2 HDD HDk HL hB hmx hme G0 hkl hkqi hq hqn
                by_cases hmm : me < mx
                · have HM2 : Hid (max me mx = mx) := by show _ = _; omega
                  go_wp2_with fail
                  go_roundw
                  case rel => exact ⟨v + 1, by omega, by go_num, by rw [HME.out, HM2.out], HAL, HB.out⟩
                  case measure => simp [intOf]; omega
                · have HM2 : Hid (max me mx = me) := by show _ = _; omega
                  go_wp2_with fail
                  go_roundw
                  case rel => exact ⟨v + 1, by omega, by go_num, by rw [HME.out, HM2.out], HAL, HB.out⟩
                  case measure => simp [intOf]; omega
              · have hfi : (Q.length : Int) < zs.length := by omega
                have HR : Hid (rcD zs = -1) := by show _ = _; unfold rcD; rw [aR_no hlt (HQ2.out.notFull HDD.out (by omega))]; rfl
                go_wp2_with fail
                go_ret
                exact ⟨ret_int HR.out.symm, HBF.out⟩
    · obtain rfl : v = zs.length := by omega
      have HR : Hid (rcD zs = mE zs zs.length) := by show _ = _; unfold rcD; rw [HA.out, if_pos rfl]
      have HF : Hid (Below w.heap.size w wr) := HD.out.trans (hB.mono HD.out.size)
      go_wp2_with fail
      go_ret
      exact ⟨ret_int HR.out.symm, HF.out⟩
end Go.Proofs.YtbncfhmpkoaffaaDoor
