/-
  spec.l02From: the distances by a queue.
-/
import Derived.Test.YtlodaeoikkjbkaaDoorLm
import Derived.Test.YtlodaeoikkjbkaaDoorCk
import Derived.Deep.AppendLies
namespace Go.Proofs.YtlodaeoikkjbkaaDoor
set_option maxRecDepth 100000
open Go.RowKit

def nI (Q : List Nat) : List Int := Q.map fun q : Nat => (q : Int)
theorem nI_length (Q : List Nat) : (nI Q).length = Q.length := by simp [nI]
theorem nI_append (Q : List Nat) (y : Nat) : nI (Q ++ [y]) = nI Q ++ [(y : Int)] := by simp [nI]
theorem nI_at {Q : List Nat} {i x : Nat} (h : Q[i]? = some x) : el (nI Q) i = (x : Int) := by unfold el nI; simp [h]
theorem rep_succ (k : Nat) (x : Int) : List.replicate (k + 1) x = List.replicate k x ++ [x] := by rw [List.replicate_succ']
theorem bit_zero (z : Int) (y : Nat) (h0 : 0 ≤ z) (h1 : z ≤ 9223372036854775807) : (bits .and .i64 (z / 2 ^ y) 1 == 0) = !bt z y := by
  obtain ⟨k, rfl⟩ := Int.eq_ofNat_of_zero_le h0
  have e : ((k : Int) / 2 ^ y) = ((k / 2 ^ y : Nat) : Int) := by simp
  have hk : k / 2 ^ y < 2 ^ 63 := Nat.lt_of_le_of_lt (Nat.div_le_self _ _) (by omega)
  rw [e, show (1 : Int) = ((1 : Nat) : Int) from rfl, and_i64 _ _ hk (by decide), nat_mask1]
  unfold bt
  rw [Int.toNat_natCast, ← testBit_div]
  rw [Bool.eq_iff_iff]; simp
  omega

theorem Rw_zero (zs : List Int) (v x y : Nat) : Rw zs v 0 x y = bt (el zs x) y := by simp [Rw]

set_option maxRecDepth 100000 in
set_option maxHeartbeats 3200000 in
theorem from_some (b off cap : Nat) (zs : List Int) (v : Nat) (w : World) (hb : b < w.heap.size) (hc : Cells w b off zs) (hg : isG zs.length zs = true) (hv : v < zs.length) :
    Calls Tryd.prog 35 #[.agg #[.int .i64 zs.length, .slice (some ⟨b, off, none⟩) zs.length cap], .int .i64 v, .int .i64 (-1), .int .i64 (-1)] w fun e w' => ∃ u, e = .returned u ∧ Own w' w.heap.size u (dsL zs v) ∧ Below w.heap.size w w' := by
  obtain ⟨p1, p2, -, -, -⟩ := isG_parts hg
  have hm62 : zs.length ≤ 62 := by omega
  have hz := isG_row_ok hg
  have D0 : Below w.heap.size w (w.alloc (.cells #[.int .i64 zs.length, .slice (some ⟨b, off, none⟩) zs.length cap] 28)) := (Below.refl _ _).alloc (Nat.le_refl _) _
  have HG0 := Lib.hid (GBox.new (n := zs.length) (cap := cap) hb hc)
  obtain ⟨i0, hi, hz0, hz1, hz2⟩ := info_parts mk_info
  have HI := Lib.hid hi; have HI0 := Lib.hid hz0; have HI1 := Lib.hid hz1; have HI2 := Lib.hid hz2
  have HZ := Lib.hid hz
  clear hg hc hi hz0 hz1 hz2 hz
  have hnil : Hid (Own ((w.alloc (.cells #[.int .i64 zs.length, .slice (some ⟨b, off, none⟩) zs.length cap] 28)).alloc (.cells #[] 2)) (w.heap.size + 1) (.slice (some ⟨w.heap.size + 1, 0, none⟩) 0 0) (List.replicate 0 (-1))) := by
    have := World.ownsRow_made (w.alloc (.cells #[.int .i64 zs.length, .slice (some ⟨b, off, none⟩) zs.length cap] 28)) #[] 0 (base := w.heap.size + 1) (e := 2) (size := 1) (by simp) (by decide) rfl
    rw [World.size_alloc] at this
    exact this
  go_enter Tryd.func35, Tryd.ntmps35
  go_wp2
  go_loopw [9, 10] (fun u i wr => ∃ k : Nat, k ≤ zs.length ∧ i = .int .i64 k ∧ Hid (Own wr (w.heap.size + 1) u (List.replicate k (-1))) ∧ Below (w.heap.size + 1) (w.alloc (.cells #[.int .i64 zs.length, .slice (some ⟨b, off, none⟩) zs.length cap] 28)) wr) (fun _ i _ => zs.length - (intOf i).toNat)
  case atStart => exact ⟨0, Nat.zero_le _, rfl, hnil, (Below.refl _ _).alloc (by simp) _⟩
  case round =>
    obtain ⟨k, hk, rfl, HO, hB⟩ := hrel
    have G0 := HG0.out.below hB
    have b0 := G0.b0
    have l0 := G0.lt
    by_cases hlt : (k : Int) < zs.length
    · have hkl : k < zs.length := by omega
      have ho := HO.out
      unfold Own at ho
      rw [List.length_replicate] at ho
      have HO2 := Lib.hid ho
      clear ho
      go_wp2_with (at_builtin; refine wpList_append_own _ rfl _ _ 22 rfl (w.heap.size + 1) 2 i0 (.int .i64 0) 1 8 Tryd.underlying22 HI.out HI0.out HI1.out HI2.out rfl (by decide) _ _ _ rfl (World.ownsRow.alloc HO2.out _) ⟨wr.heap.size, 0, none⟩ 1 1 [.int .i64 (-1)] rfl rfl (cell_one_new _ _ _) (by simp [Value.oneCell']) (by unfold maxLen; omega) (by omega) (by simp; omega) ?_; intro u' w3 hown3 hgr3 _)
      have E3 := (hB.alloc l0 _).grown hgr3 (by simp; omega) (fun k e => (World.ownsRow.lt HO2.out k e).1)
      have HN : Hid (Own w3 (w.heap.size + 1) u' (List.replicate (k + 1) (-1))) := by
        show World.ownsRow _ _ _ _ _ _ _
        rw [rep_succ, List.map_append, List.length_append, List.length_replicate]
        exact hown3
      clear hown3 hgr3 HO2 HO
      go_wp2
      go_roundw
      case rel => exact ⟨k + 1, by omega, by go_num, HN, E3⟩
      case measure => simp [intOf]; omega
    · have hkl : k = zs.length := by omega
      have HO0 := Lib.hid HO.out
      rw [hkl] at HO0
      obtain ⟨go, capo, hu, hgo, hgo2⟩ : ∃ go capo, u9 = .slice (some ⟨go, 0, none⟩) zs.length capo ∧ w.heap.size + 1 ≤ go ∧ go < wr.heap.size := by
        rcases HO0.out.form with ⟨_, h0⟩ | ⟨go, capo, h1, h2, h3⟩
        · have h4 := congrArg List.length h0
          rw [List.length_replicate, List.length_nil] at h4
          omega
        · rw [List.length_replicate] at h1
          exact ⟨go, capo, h1, h2, h3⟩
      subst hu
      have ho : wr.ownsRow (w.heap.size + 1) 2 1 (.slice (some ⟨go, 0, none⟩) zs.length capo) zs.length ((List.replicate zs.length (-1 : Int)).map (Value.int .i64)) := by have := HO0.out; unfold Own at this; rw [List.length_replicate] at this; exact this
      have hc0 : wr.cell? ⟨go, v, none⟩ = some (.int .i64 (-1)) := (World.ownsRow.cellAt ho v (by omega)).trans (by simp [hv])
      have hf0 : wr.frozen? ⟨go, v, none⟩ = false := World.ownsRow.frozenAt ho v
      clear ho
      have hv0 : (0 : Int) ≤ v := by omega
      have hvl : (v : Int) < zs.length := by omega
      clear HO
      go_wp2
      obtain ⟨w2, h2⟩ : ∃ w2, w2 = (wr.setCell ⟨go, v, none⟩ (.int .i64 0)).alloc (.cells #[.int .i64 v] 2) := ⟨_, rfl⟩
      have O2 : Hid (Own w2 (w.heap.size + 1) (.slice (some ⟨go, 0, none⟩) zs.length capo) ((List.replicate zs.length (-1)).set v 0)) := by
        have ho : wr.ownsRow (w.heap.size + 1) 2 1 (.slice (some ⟨go, 0, none⟩) zs.length capo) zs.length ((List.replicate zs.length (-1 : Int)).map (Value.int .i64)) := by have := HO0.out; unfold Own at this; rw [List.length_replicate] at this; exact this
        have := (World.ownsRow.stored ho v (.int .i64 0)).1
        rw [← List.map_set] at this
        show Own _ _ _ _
        rw [h2]
        unfold Own
        rw [List.length_set, List.length_replicate]
        exact World.ownsRow.alloc this _
      have B2 : Below (w.heap.size + 1) (w.alloc (.cells #[.int .i64 zs.length, .slice (some ⟨b, off, none⟩) zs.length cap] 28)) w2 := by rw [h2]; exact (hB.setCell (p := ⟨go, v, none⟩) (by simpa using hgo) _).alloc (by simp; omega) _
      have L2 : Hid (Own w2 (w.heap.size + 1) (.slice (some ⟨wr.heap.size, 0, none⟩) [v].length 1) (nI [v])) := by
        have hk := Blk.new (wr.setCell ⟨go, v, none⟩ (.int .i64 0)) [(v : Int)]
        have hs : (wr.setCell ⟨go, v, none⟩ (.int .i64 0)).heap.size = wr.heap.size := by simp
        rw [hs] at hk
        show Own _ _ _ _
        rw [h2]
        exact Own.of_blk hk (B := w.heap.size + 1) (by omega) (by unfold maxLen; simp [nI])
      have Q2 := Lib.hid (QInv.start (R := Rw zs v 0) hv)
      have hne : wr.heap.size ≠ go := by omega
      rw [← h2]
      clear h2 HO0 hc0 hf0 hgo2 b0 hB
      obtain ⟨gl0, hgl0⟩ : ∃ g, g = wr.heap.size := ⟨_, rfl⟩
      rw [← hgl0] at L2 hne ⊢
      clear hgl0
      go_loopw [11, 12] (fun ul i wr => ∃ (Q : List Nat) (D : List Int) (k gl capl : Nat), i = .int .i64 k ∧ ul = .slice (some ⟨gl, 0, none⟩) Q.length capl ∧ k ≤ Q.length ∧ Hid (QInv (Rw zs v 0) zs.length v D Q k 0) ∧ Hid (Own wr (w.heap.size + 1) (.slice (some ⟨go, 0, none⟩) zs.length capo) D) ∧ Hid (Own wr (w.heap.size + 1) (.slice (some ⟨gl, 0, none⟩) Q.length capl) (nI Q)) ∧ gl ≠ go ∧ Below (w.heap.size + 1) (w.alloc (.cells #[.int .i64 zs.length, .slice (some ⟨b, off, none⟩) zs.length cap] 28)) wr) (fun _ i _ => zs.length - (intOf i).toNat)
      case atStart => exact ⟨[v], _, 0, gl0, 1, rfl, rfl, by simp, Q2, O2, L2, hne, B2⟩
      case round =>
        clear O2 L2 Q2 hne B2
        obtain ⟨Q, D, k, gl, capl, rfl, rfl, hk, HQ, HD, HL, hne, hB⟩ := hrel
        have hql := HQ.out.qlen
        by_cases hkq : (k : Int) < Q.length
        · have hkl : k < Q.length := by omega
          obtain ⟨x, hx⟩ : ∃ x, Q[k]? = some x := ⟨_, List.getElem?_eq_getElem hkl⟩
          have hxn := HQ.out.qlt x (List.mem_of_getElem? hx)
          have hk0 : (0 : Int) ≤ k := by omega
          have hlo : wr.ownsRow (w.heap.size + 1) 2 1 (.slice (some ⟨gl, 0, none⟩) Q.length capl) Q.length ((nI Q).map (Value.int .i64)) := by have := HL.out; unfold Own at this; rw [nI_length] at this; exact this
          have hcl : wr.cell? ⟨gl, k, none⟩ = some (.int .i64 x) := (World.ownsRow.cellAt hlo k (by omega)).trans ((map_at _ k (by rw [nI_length]; omega)).trans (by rw [nI_at hx]))
          clear hlo
          go_wp2
          clear hcl
          obtain ⟨wo, rfl⟩ : ∃ wo : World, wo = wr := ⟨_, rfl⟩
          go_loopw [11, 14] (fun ul t wr => ∃ (Q : List Nat) (D : List Int) (y gl capl : Nat), t = .int .i64 y ∧ ul = .slice (some ⟨gl, 0, none⟩) Q.length capl ∧ y ≤ zs.length ∧ Q[k]? = some x ∧ Hid (QInv (Rw zs v 0) zs.length v D Q k y) ∧ Hid (Own wr (w.heap.size + 1) (.slice (some ⟨go, 0, none⟩) zs.length capo) D) ∧ Hid (Own wr (w.heap.size + 1) (.slice (some ⟨gl, 0, none⟩) Q.length capl) (nI Q)) ∧ gl ≠ go ∧ Below (w.heap.size + 1) (w.alloc (.cells #[.int .i64 zs.length, .slice (some ⟨b, off, none⟩) zs.length cap] 28)) wr) (fun _ t _ => zs.length - (intOf t).toNat)
          case atStart => exact ⟨Q, D, 0, gl, capl, rfl, rfl, Nat.zero_le _, hx, HQ, HD, HL, hne, hB⟩
          case round =>
            clear HQ HD HL hne hB hx hql hkq hkl hk
            obtain ⟨Q, D, y, gl, capl, rfl, rfl, hy, hx, HQ, HD, HL, hne, hB⟩ := hrel
            have G0 := HG0.out.below hB
            have b0 := G0.b0
            have b1 := G0.b1
            have l0 := G0.lt
            have hql := HQ.out.qlen
            by_cases hlt : (y : Int) < zs.length
            · have hyl : y < zs.length := by omega
              obtain ⟨hb0, hb1⟩ := HZ.out x hxn
              have hcz : wr.cell? ⟨b, off + x, none⟩ = some (.int .i64 (el zs x)) := G0.cells x hxn
              have ho : wr.ownsRow (w.heap.size + 1) 2 1 (.slice (some ⟨go, 0, none⟩) zs.length capo) zs.length (D.map (Value.int .i64)) := by have := HD.out; unfold Own at this; rw [HQ.out.len] at this; exact this
              have hoy : wr.cell? ⟨go, y, none⟩ = some (.int .i64 (el D y)) := (World.ownsRow.cellAt ho y (by omega)).trans (map_at _ y (by rw [HQ.out.len]; omega))
              have hox : wr.cell? ⟨go, x, none⟩ = some (.int .i64 (el D x)) := (World.ownsRow.cellAt ho x (by omega)).trans (map_at _ x (by rw [HQ.out.len]; omega))
              have hfy : wr.frozen? ⟨go, y, none⟩ = false := World.ownsRow.frozenAt ho y
              have HOW := Lib.hid ho
              have bit0 := bit_zero (el zs x) y hb0 hb1
              have hx1 : ((x : Int) == -1) = false := by rw [beq_eq_false_iff_ne]; omega
              have hx0 : (0 : Int) ≤ x := by omega
              have hxl : (x : Int) < zs.length := by omega
              have hy0 : (0 : Int) ≤ y := by omega
              have hy62 : (y : Int) ≤ 61 := by omega
              clear ho
              cases hbit : bt (el zs x) y with
              | false =>
                have bit1 : (bits .and .i64 (el zs x / 2 ^ y) 1 == 0) = true := by rw [bit0, hbit]; rfl
                have HN := Lib.hid (HQ.out.skip hyl (fun x' hx' hR => by
                  rw [hx] at hx'; obtain rfl : x = x' := by simpa using hx'
                  rw [Rw_zero, hbit] at hR; cases hR))
                clear bit0 hbit
                go_wp2
                go_roundw
                case rel => exact ⟨Q, D, y + 1, gl, capl, by go_num, rfl, by omega, hx, HN, HD, HL, hne, hB⟩
                case measure => simp [intOf]; omega
              | true =>
                have bit1 : (bits .and .i64 (el zs x / 2 ^ y) 1 == 0) = false := by rw [bit0, hbit]; rfl
                by_cases hd : 0 ≤ el D y
                · have HN := Lib.hid (HQ.out.skip hyl (fun _ _ _ => hd))
                  clear bit0 hbit
                  go_wp2
                  go_roundw
                  case rel => exact ⟨Q, D, y + 1, gl, capl, by go_num, rfl, by omega, hx, HN, HD, HL, hne, hB⟩
                  case measure => simp [intOf]; omega
                · have hxd := (HQ.out.mem x hxn).2 (List.mem_of_getElem? hx)
                  have hfew := HQ.out.few x hxn
                  have hw : IntKind.i64.wrap (el D x + 1) = el D x + 1 := IntWalk.i64_in _ ⟨by omega, by omega⟩
                  have HN := Lib.hid (HQ.out.push hx hyl (by rw [Rw_zero]; exact hbit) (by omega))
                  clear bit0 hbit
                  obtain ⟨d, hdd⟩ : ∃ d, d = el D x + 1 := ⟨_, rfl⟩
                  have hs : (wr.setCell ⟨go, y, none⟩ (.int .i64 d)).heap.size = wr.heap.size := by simp
                  have hgs : wr.grownBy (wr.setCell ⟨go, y, none⟩ (.int .i64 d)) (some go) := grown_set ⟨rfl, rfl, rfl, Nat.le_refl _, fun _ _ _ => rfl⟩ go y _
                  have HL2 : Hid (Own (wr.setCell ⟨go, y, none⟩ (.int .i64 d)) (w.heap.size + 1) (.slice (some ⟨gl, 0, none⟩) Q.length capl) (nI Q)) := HL.out.kept hgs (.inr (by simp [Value.ownBlock]; exact hne))
                  have HD2 : Hid (Own (wr.setCell ⟨go, y, none⟩ (.int .i64 d)) (w.heap.size + 1) (.slice (some ⟨go, 0, none⟩) zs.length capo) (D.set y d)) := by
                    have := (World.ownsRow.stored HOW.out y (.int .i64 d)).1
                    rw [← List.map_set] at this
                    show Own _ _ _ _
                    unfold Own
                    rw [List.length_set, HQ.out.len]
                    exact this
                  have HLW : Hid ((wr.setCell ⟨go, y, none⟩ (.int .i64 d)).ownsRow (w.heap.size + 1) 2 1 (.slice (some ⟨gl, 0, none⟩) Q.length capl) Q.length ((nI Q).map (Value.int .i64))) := by
                    have := HL2.out; unfold Own at this; rw [nI_length] at this; exact this
                  have HNW : Hid (∀ j u, [Value.int .i64 (y : Int)][j]? = some u → ((wr.setCell ⟨go, y, none⟩ (.int .i64 d)).alloc (.cells #[.int .i64 (y : Int)] 2)).cell? ((⟨wr.heap.size, 0, none⟩ : Addr).add j) = some u) := by
                    have h := cell_one_new (wr.setCell ⟨go, y, none⟩ (.int .i64 d)) (.int .i64 (y : Int)) 2
                    rw [hs] at h
                    exact h
                  have hgolt : go < wr.heap.size := HD.out.lt go rfl
                  rw [← hdd] at HN
                  have HB2 := Lib.hid ((hB.setCell (p := ⟨go, y, none⟩) (by simpa using hgo) (.int .i64 d)).alloc (by rw [hs]; exact l0) (.cells #[.int .i64 (y : Int)] 2))
                  have HDD := Lib.hid hdd
                  clear hgs
                  go_wp2_with (at_builtin; rw [← HDD.out]; refine wpList_append_lies _ rfl _ _ 22 rfl (w.heap.size + 1) 2 i0 (.int .i64 0) 1 8 Tryd.underlying22 HI.out HI0.out HI1.out HI2.out rfl (by decide) (.slice (some ⟨gl, 0, none⟩) Q.length capl) Q.length _ rfl (World.ownsRow.alloc HLW.out _) ⟨wr.heap.size, 0, none⟩ 1 1 [.int .i64 y] rfl rfl HNW.out (by simp [Value.oneCell']) (by decide) (by unfold maxLen; omega) (by omega) (by simp; omega) (wr.heap.size + 1) (by simp) ?_; intro gg cp w3 hown3 hgr3 hat3 hlt3)
                  have hne3 : gg ≠ go := by
                    rcases hat3 with h | h
                    · have : gl = gg := by simpa [Value.ownBlock] using h
                      omega
                    · omega
                  have HD3 : Hid (Own w3 (w.heap.size + 1) (.slice (some ⟨go, 0, none⟩) zs.length capo) (D.set y d)) := (show Own _ _ _ _ from World.ownsRow.alloc HD2.out _).kept hgr3 (.inr (by simp [Value.ownBlock]; omega))
                  have HL3 : Hid (Own w3 (w.heap.size + 1) (.slice (some ⟨gg, 0, none⟩) (Q ++ [y]).length cp) (nI (Q ++ [y]))) := by
                    show World.ownsRow _ _ _ _ _ _ _
                    rw [nI_length, nI_append, List.map_append, List.length_append]
                    exact hown3
                  have B3 : Below (w.heap.size + 1) (w.alloc (.cells #[.int .i64 zs.length, .slice (some ⟨b, off, none⟩) zs.length cap] 28)) w3 := HB2.out.grown hgr3 (by simpa using HB2.out.size) (fun k e => by cases e; exact (World.ownsRow.lt HLW.out gl rfl).1)
                  have hxq : (Q ++ [y])[k]? = some x := by
                    rw [List.getElem?_append_left (by rcases List.getElem?_eq_some_iff.1 hx with ⟨h, _⟩; exact h)]; exact hx
                  clear hown3 hgr3 hat3 HL2 HD2 HLW HNW HB2 HOW hB HL HD hcz hoy hox hfy
                  go_wp2
                  go_roundw
                  case rel => exact ⟨Q ++ [y], D.set y d, y + 1, gg, cp, by go_num, by rw [List.length_append]; rfl, by omega, hxq, HN, HD3, HL3, hne3, B3⟩
                  case measure => simp [intOf]; omega
            · have hyl : y = zs.length := by omega
              subst hyl
              have HN := Lib.hid HQ.out.next
              have hkl : k < Q.length := by rcases List.getElem?_eq_some_iff.1 hx with ⟨h, _⟩; exact h
              clear HQ
              go_wp2
              go_roundw
              case rel => exact ⟨Q, D, k + 1, gl, capl, by go_num, rfl, by omega, HN, HD, HL, hne, hB⟩
              case measure => simp [intOf]; omega
        · have hkl : k = Q.length := by omega
          have HDD : Hid (D = dsL zs v) := by
            show D = dsL zs v
            rw [hkl] at HQ
            exact HQ.out.done hv
          have HF : Hid (Own wr w.heap.size (.slice (some ⟨go, 0, none⟩) zs.length capo) (dsL zs v)) := by
            show Own _ _ _ _
            rw [← HDD.out]; exact HD.out.base (by omega)
          have BF := D0.trans (hB.mono (by simp))
          clear HQ HD HDD HL hB
          go_wp2
          go_ret
          exact ⟨_, rfl, HF.out, BF⟩
end Go.Proofs.YtlodaeoikkjbkaaDoor
