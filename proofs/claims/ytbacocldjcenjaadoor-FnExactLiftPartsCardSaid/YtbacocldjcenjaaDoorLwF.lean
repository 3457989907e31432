/-
  spec.l01Leaders, with all least vertices told.
-/
import Derived.Test.YtbacocldjcenjaaDoorLz
import Derived.Test.YtbacocldjcenjaaDoorFr
import Derived.Deep.RegionHeld3
namespace Go.Proofs.YtbacocldjcenjaaDoor
set_option maxRecDepth 100000
open Go.RowKit

theorem bdrew3 {B B' : Nat} {w w' : World} (h : Below B' w.drew w') (hB : B ≤ B') : Below B w w' := ((Below.refl B w).drew).trans (h.mono hB)

set_option maxRecDepth 100000 in
set_option maxHeartbeats 3200000 in
theorem leadersF_some (b off cap : Nat) (zs : List Int) (w : World) (hb : b < w.heap.size) (hc : Cells w b off zs) (hg : isG zs.length zs = true) :
    Calls Tryd.prog 21 #[.agg #[.int .i64 zs.length, .slice (some ⟨b, off, none⟩) zs.length cap]] w fun e w' => ∃ u D, e = .returned u ∧ Own w' w.heap.size u D ∧ LdF zs D zs.length ∧ Below w.heap.size w w' := by
  obtain ⟨p1, p2, -, -, -⟩ := isG_parts hg
  have hm62 : zs.length ≤ 62 := by omega
  have DW : Below w.heap.size w (w.alloc (.cells #[.int .i64 zs.length, .slice (some ⟨b, off, none⟩) zs.length cap] 38)) := (Below.refl _ _).alloc (Nat.le_refl _) _
  have HG0 := Lib.hid (GBox.new (n := zs.length) (cap := cap) hb hc)
  have HG := Lib.hid hg
  obtain ⟨i0, hi, hz0, hz1, hz2⟩ := info_parts mk_info
  have HI := Lib.hid hi; have HI0 := Lib.hid hz0; have HI1 := Lib.hid hz1; have HI2 := Lib.hid hz2
  clear hg hc hi hz0 hz1 hz2
  have hnil : Hid (Own ((w.alloc (.cells #[.int .i64 zs.length, .slice (some ⟨b, off, none⟩) zs.length cap] 38)).alloc (.cells #[] 2)) (w.heap.size + 1) (.slice (some ⟨w.heap.size + 1, 0, none⟩) 0 0) (List.replicate 0 (-1))) := by
    have := World.ownsRow_made (w.alloc (.cells #[.int .i64 zs.length, .slice (some ⟨b, off, none⟩) zs.length cap] 38)) #[] 0 (base := w.heap.size + 1) (e := 2) (size := 1) (by simp) (by decide) rfl
    rw [World.size_alloc] at this
    exact this
  go_enter Tryd.func21, Tryd.ntmps21
  go_wp2
  go_loopw [3, 4] (fun u i wr => ∃ k : Nat, k ≤ zs.length ∧ i = .int .i64 k ∧ Hid (Own wr (w.heap.size + 1) u (List.replicate k (-1))) ∧ Below (w.heap.size + 1) (w.alloc (.cells #[.int .i64 zs.length, .slice (some ⟨b, off, none⟩) zs.length cap] 38)) wr) (fun _ i _ => zs.length - (intOf i).toNat)
  case atStart => exact ⟨0, Nat.zero_le _, rfl, hnil, (Below.refl _ _).alloc (by simp) _⟩
  case round =>
    obtain ⟨k, hk, rfl, HO, hB⟩ := hrel
    have G0 := HG0.out.below hB
    have b0 := G0.b0
    have l0 := G0.lt
    by_cases hlt : (k : Int) < zs.length
    · have hkl : k < zs.length := by omega
      have ho := HO.out
      unfold Own at ho
      rw [List.length_replicate] at ho
      have HO2 := Lib.hid ho
      clear ho
      go_wp2_with (at_builtin; refine wpList_append_own _ rfl _ _ 36 rfl (w.heap.size + 1) 2 i0 (.int .i64 0) 1 8 Tryd.underlying36 HI.out HI0.out HI1.out HI2.out rfl (by decide) _ _ _ rfl (World.ownsRow.alloc HO2.out _) ⟨wr.heap.size, 0, none⟩ 1 1 [.int .i64 (-1)] rfl rfl (cell_one_new _ _ _) (by simp [Value.oneCell']) (by unfold maxLen; omega) (by omega) (by simp; omega) ?_; intro u' w3 hown3 hgr3 _)
      have E3 := (hB.alloc l0 _).grown hgr3 (by simp; omega) (fun k e => (World.ownsRow.lt HO2.out k e).1)
      have HN : Hid (Own w3 (w.heap.size + 1) u' (List.replicate (k + 1) (-1))) := by
        show World.ownsRow _ _ _ _ _ _ _
        rw [rep_succ, List.map_append, List.length_append, List.length_replicate]
        exact hown3
      clear hown3 hgr3 HO2 HO
      go_wp2
      go_roundw
      case rel => exact ⟨k + 1, by omega, by go_num, HN, E3⟩
      case measure => simp [intOf]; omega
    · have hkl : k = zs.length := by omega
      have HO0 := Lib.hid HO.out
      rw [hkl] at HO0
      obtain ⟨go, capo, hu, hgo, hgo2⟩ : ∃ go capo, u3 = .slice (some ⟨go, 0, none⟩) zs.length capo ∧ w.heap.size + 1 ≤ go ∧ go < wr.heap.size := by
        rcases HO0.out.form with ⟨_, h0⟩ | ⟨go, capo, h1, h2, h3⟩
        · have h4 := congrArg List.length h0
          rw [List.length_replicate, List.length_nil] at h4
          omega
        · rw [List.length_replicate] at h1
          exact ⟨go, capo, h1, h2, h3⟩
      subst hu
      have HL0 := Lib.hid (LdF.start (zs := zs) (fun a c ha hc => isG_symm HG.out ha hc))
      clear HO hgo2
      go_wp2
      go_loopw [5] (fun t wr => ∃ (v : Nat) (D : List Int), t = .int .i64 v ∧ v ≤ zs.length ∧ Hid (LdF zs D v) ∧ Hid (Own wr (w.heap.size + 1) (.slice (some ⟨go, 0, none⟩) zs.length capo) D) ∧ Below (w.heap.size + 1) (w.alloc (.cells #[.int .i64 zs.length, .slice (some ⟨b, off, none⟩) zs.length cap] 38)) wr) (fun t _ => zs.length - (intOf t).toNat)
      case atStart => exact ⟨0, _, rfl, Nat.zero_le _, HL0, HO0, hB⟩
      case round =>
        clear HL0 HO0 hB G0 l0 b0
        obtain ⟨v, D0, rfl, hv, HL, HD, hB⟩ := hrel
        have G0 := HG0.out.below hB
        have b0 := G0.b0
        have l0 := G0.lt
        by_cases hlt2 : (v : Int) < zs.length
        · have hvl : v < zs.length := by omega
          have hv0 : (0 : Int) ≤ v := by omega
          have ho : wr.ownsRow (w.heap.size + 1) 2 1 (.slice (some ⟨go, 0, none⟩) zs.length capo) zs.length (D0.map (Value.int .i64)) := by have := HD.out; unfold Own at this; rw [HL.out.len] at this; exact this
          have hcv : wr.cell? ⟨go, v, none⟩ = some (.int .i64 (el D0 v)) := (World.ownsRow.cellAt ho v (by omega)).trans (map_at _ v (by rw [HL.out.len]; omega))
          have hfv : wr.frozen? ⟨go, v, none⟩ = false := World.ownsRow.frozenAt ho v
          by_cases hneg : 0 ≤ el D0 v
          · have HN := Lib.hid (HL.out.skip hvl hneg)
            clear ho hfv
            go_wp2
            go_roundw
            case rel => exact ⟨v + 1, D0, by go_num, by omega, HN, HD, hB⟩
            case measure => simp [intOf]; omega
          · have HP0 := Lib.hid (PInv.start HL.out.len hvl (by omega))
            have hgolt : go < wr.heap.size := HD.out.lt go rfl
            obtain ⟨w2, h2⟩ : ∃ w2, w2 = (wr.setCell ⟨go, v, none⟩ (.int .i64 v)).alloc (.cells #[.int .i64 v] 2) := ⟨_, rfl⟩
            have hs : (wr.setCell ⟨go, v, none⟩ (.int .i64 v)).heap.size = wr.heap.size := by simp
            have O2 : Hid (Own w2 (w.heap.size + 1) (.slice (some ⟨go, 0, none⟩) zs.length capo) (D0.set v (v : Int))) := by
              have := (World.ownsRow.stored ho v (.int .i64 v)).1
              rw [← List.map_set] at this
              show Own _ _ _ _
              rw [h2]
              unfold Own
              rw [List.length_set, HL.out.len]
              exact World.ownsRow.alloc this _
            have B2 : Below (w.heap.size + 1) (w.alloc (.cells #[.int .i64 zs.length, .slice (some ⟨b, off, none⟩) zs.length cap] 38)) w2 := by rw [h2]; exact (hB.setCell (p := ⟨go, v, none⟩) (by simpa using hgo) _).alloc (by rw [hs]; exact l0) _
            have L2 : Hid (Own w2 (w.heap.size + 1) (.slice (some ⟨wr.heap.size, 0, none⟩) [v].length 1) (nI [v])) := by
              have hk := Blk.new (wr.setCell ⟨go, v, none⟩ (.int .i64 v)) [(v : Int)]
              rw [hs] at hk
              show Own _ _ _ _
              rw [h2]
              exact Own.of_blk hk (B := w.heap.size + 1) (by omega) (by unfold maxLen; simp [nI])
            have hne : wr.heap.size ≠ go := by omega
            have hm0 : el D0 v < 0 := by omega
            clear ho
            go_wp2
            rw [← h2]
            clear h2 hcv hfv hgolt HD hB G0 b0 l0 hs
            obtain ⟨gl0, hgl0⟩ : ∃ g, g = wr.heap.size := ⟨_, rfl⟩
            rw [← hgl0] at L2 hne ⊢
            clear hgl0
            go_loopw [6, 7] (fun ul i wr => ∃ (Q : List Nat) (D : List Int) (k gl capl : Nat), i = .int .i64 k ∧ ul = .slice (some ⟨gl, 0, none⟩) Q.length capl ∧ k ≤ Q.length ∧ Hid (PInv zs v D0 D Q k 0) ∧ Hid (Own wr (w.heap.size + 1) (.slice (some ⟨go, 0, none⟩) zs.length capo) D) ∧ Hid (Own wr (w.heap.size + 1) (.slice (some ⟨gl, 0, none⟩) Q.length capl) (nI Q)) ∧ gl ≠ go ∧ Below (w.heap.size + 1) (w.alloc (.cells #[.int .i64 zs.length, .slice (some ⟨b, off, none⟩) zs.length cap] 38)) wr) (fun _ i _ => zs.length - (intOf i).toNat)
            case atStart => exact ⟨[v], _, 0, gl0, 1, rfl, rfl, by simp, HP0, O2, L2, hne, B2⟩
            case round =>
              clear O2 L2 HP0 hne B2
              obtain ⟨Q, D, k, gl, capl, rfl, rfl, hk2, HQ, HD, HQL, hne, hB⟩ := hrel
              have hql := HQ.out.qlen
              have G1 := HG0.out.below hB
              have l1 := G1.lt
              by_cases hkq : (k : Int) < Q.length
              · have hkl2 : k < Q.length := by omega
                obtain ⟨x, hx⟩ : ∃ x, Q[k]? = some x := ⟨_, List.getElem?_eq_getElem hkl2⟩
                have hxn := HQ.out.qlt x (List.mem_of_getElem? hx)
                have hk0 : (0 : Int) ≤ k := by omega
                have HC : Hid (∀ W, Below wr.heap.size wr W → W.cell? ⟨w.heap.size, 0, none⟩ = some (.int .i64 zs.length) ∧ W.cell? ⟨w.heap.size, 1, none⟩ = some (.slice (some ⟨b, off, none⟩) zs.length cap) ∧ W.cell? ⟨gl, k, none⟩ = some (.int .i64 x)) := fun W hW => by
                  have GW := G1.below (hW.mono l1)
                  refine ⟨GW.b0, GW.b1, ?_⟩
                  have hlo := HQL.out.below hW
                  unfold Own at hlo; rw [nI_length] at hlo
                  exact (World.ownsRow.cellAt hlo k (by omega)).trans ((map_at _ k (by rw [nI_length]; omega)).trans (by rw [nI_at hx]))
                obtain ⟨c0, c1, c2⟩ := HC.out wr (Below.refl _ _)
                have HNB : Hid (∀ W, Below wr.heap.size wr W → Calls Tryd.prog 32 #[.agg #[.int .i64 zs.length, .slice (some ⟨b, off, none⟩) zs.length cap], .int .i64 x] W fun e w' => ∃ u, e = .returned u ∧ Own w' W.heap.size u (nbL zs x zs.length) ∧ Below W.heap.size W w') := fun W hW => by
                  have GW := G1.below (hW.mono l1)
                  exact l01Nb_some zs.length b off cap zs x W GW.lb GW.cells HG.out hxn
                have hszw : w.heap.size < wr.heap.size := by omega
                go_wp2_with fail
                go_region_held3 (fun w' => w'.cell? ⟨w.heap.size, 0, none⟩ = some (.int .i64 zs.length) ∧ w'.cell? ⟨w.heap.size, 1, none⟩ = some (.slice (some ⟨b, off, none⟩) zs.length cap) ∧ w'.cell? ⟨gl, k, none⟩ = some (.int .i64 x))
                  (go_keep)
                  (first | (go_at_call 32; refine (HNB.out _ ((Below.refl _ _).drew)).mono ?_; rintro e w5 ⟨un, rfl, hON, hb5⟩; have hb6 : Below wr.heap.size wr w5 := bdrew3 hb5 (by simp); obtain ⟨c0, c1, c2⟩ := HC.out w5 hb6; obtain ⟨na, nc, rfl⟩ : ∃ a c, un = .slice a (nbL zs x zs.length).length c := ⟨_, _, slForm hON.sl⟩))
                have HD5 := Lib.hid (HD.out.below hb6)
                have HL5 := Lib.hid (HQL.out.below hb6)
                have B5 := hB.trans (hb6.mono l1)
                have hNform := hON.form
                have hONb := hON.base (B' := wr.heap.size) (by simp)
                have hgolt := HD.out.lt go rfl
                have hgllt := HQL.out.lt gl rfl
                have s5 := hb6.size
                clear hb5 hb6 c0 c1 c2 HC HNB HD HQL hB G1
                rcases hNform with ⟨e1, e2⟩ | ⟨gn, cn, e1, hgn1, hgn2⟩
                · obtain ⟨rfl, -, rfl⟩ : na = none ∧ (nbL zs x zs.length).length = 0 ∧ nc = 0 := by
                    rw [e2] at e1; cases e1; exact ⟨rfl, by rw [e2]; rfl, rfl⟩
                  have hz : (nbN zs x).length = 0 := by
                    have := congrArg List.length e2
                    rw [nbN_map, List.length_map] at this
                    simpa using this
                  have hl0 : (nbL zs x zs.length).length = 0 := by rw [e2]; rfl
                  have HN := Lib.hid (PInv.next hx (by rw [hz]; exact HQ.out))
                  rw [hl0]
                  clear e1 e2 hON hONb HQ
                  go_wp2
                  go_loopw [6, 9] (fun ul t wr => t = .int .i64 0 ∧ ul = .slice (some ⟨gl, 0, none⟩) Q.length capl ∧ wr = w5) (fun _ t _ => 0)
                  case atStart => exact ⟨rfl, rfl, rfl⟩
                  case round =>
                    obtain ⟨rfl, rfl, rfl⟩ := hrel
                    go_wp2
                    go_roundw
                    case rel => exact ⟨Q, D, k + 1, gl, capl, by go_num, rfl, by omega, HN, HD5, HL5, hne, B5⟩
                    case measure => simp [intOf]; omega
                · obtain ⟨rfl, rfl⟩ : na = some ⟨gn, 0, none⟩ ∧ nc = cn := by cases e1; exact ⟨rfl, rfl⟩
                  obtain ⟨ln, hln⟩ : ∃ ln, ln = (nbN zs x).length := ⟨_, rfl⟩
                  have hll : (nbL zs x zs.length).length = ln := by rw [hln, nbN_map, List.length_map]
                  have hl62 : ln ≤ 62 := by
                    rw [hln]
                    have : (nbN zs x).length ≤ zs.length := by unfold nbN; exact Nat.le_trans (List.length_filter_le _ _) (by simp)
                    omega
                  have hgnb : wr.heap.size ≤ gn := hONb.ge gn rfl
                  have hn1 : gl ≠ gn := by omega
                  have hn2 : ¬ go = gn := by omega
                  have hn3 : ¬ gn = go := by omega
                  have HON := Lib.hid (hONb.base (B' := w.heap.size + 1) l1)
                  rw [hll] at HON ⊢
                  have HLN := Lib.hid hln; have HLL := Lib.hid hll
                  clear e1 hON hONb hln hll
                  go_wp2
                  go_loopw [6, 9] (fun ul t wr => ∃ (Q : List Nat) (D : List Int) (m gl capl : Nat), t = .int .i64 m ∧ ul = .slice (some ⟨gl, 0, none⟩) Q.length capl ∧ m ≤ ln ∧ Q[k]? = some x ∧ Hid (PInv zs v D0 D Q k m) ∧ Hid (Own wr (w.heap.size + 1) (.slice (some ⟨go, 0, none⟩) zs.length capo) D) ∧ Hid (Own wr (w.heap.size + 1) (.slice (some ⟨gl, 0, none⟩) Q.length capl) (nI Q)) ∧ Hid (Own wr (w.heap.size + 1) (.slice (some ⟨gn, 0, none⟩) ln nc) (nbL zs x zs.length)) ∧ gl ≠ go ∧ gl ≠ gn ∧ Below (w.heap.size + 1) (w.alloc (.cells #[.int .i64 zs.length, .slice (some ⟨b, off, none⟩) zs.length cap] 38)) wr) (fun _ t _ => ln - (intOf t).toNat)
                  case atStart => exact ⟨Q, D, 0, gl, capl, rfl, rfl, Nat.zero_le _, hx, HQ, HD5, HL5, HON, hne, hn1, B5⟩
                  case round =>
                    clear HQ HD5 HL5 HON hne hn1 B5 hx hql hkq hkl2 hk2 hgolt hgllt s5
                    obtain ⟨Q, D, m, gl, capl, rfl, rfl, hm, hx, HQ, HD, HQL, HON, hne, hn1, hB⟩ := hrel
                    have hql := HQ.out.qlen
                    have G1 := HG0.out.below hB
                    have l1 := G1.lt
                    by_cases hlm : (m : Int) < ln
                    · have hml : m < ln := by omega
                      have hm0 : (0 : Int) ≤ m := by omega
                      obtain ⟨y, hy⟩ : ∃ y, (nbN zs x)[m]? = some y := ⟨_, List.getElem?_eq_getElem (by rw [← HLN.out]; exact hml)⟩
                      have hyl := (nbN_mem.1 (List.mem_of_getElem? hy)).1
                      have hcn : wr.cell? ⟨gn, m, none⟩ = some (.int .i64 y) := by
                        have h := HON.out
                        unfold Own at h; rw [HLL.out] at h
                        refine (World.ownsRow.cellAt h m (by omega)).trans ((map_at _ m (by rw [HLL.out]; exact hml)).trans ?_)
                        have : el (nbL zs x zs.length) m = (y : Int) := by rw [nbN_map]; unfold el; simp [hy]
                        rw [this]
                      have ho : wr.ownsRow (w.heap.size + 1) 2 1 (.slice (some ⟨go, 0, none⟩) zs.length capo) zs.length (D.map (Value.int .i64)) := by have := HD.out; unfold Own at this; rw [HQ.out.len] at this; exact this
                      have hoy : wr.cell? ⟨go, y, none⟩ = some (.int .i64 (el D y)) := (World.ownsRow.cellAt ho y (by omega)).trans (map_at _ y (by rw [HQ.out.len]; omega))
                      have hfy : wr.frozen? ⟨go, y, none⟩ = false := World.ownsRow.frozenAt ho y
                      have hy0 : (0 : Int) ≤ y := by omega
                      have hyz : (y : Int) < zs.length := by omega
                      have HOW := Lib.hid ho
                      clear ho
                      by_cases hd : 0 ≤ el D y
                      · have HN := Lib.hid (HQ.out.skip hx hy hd)
                        clear HQ hy
                        go_wp2
                        go_roundw
                        case rel => exact ⟨Q, D, m + 1, gl, capl, by go_num, rfl, by omega, hx, HN, HD, HQL, HON, hne, hn1, hB⟩
                        case measure => simp [intOf]; omega
                      · have HN := Lib.hid (HQ.out.push hvl hx hy (by omega))
                        have hs : (wr.setCell ⟨go, y, none⟩ (.int .i64 v)).heap.size = wr.heap.size := by simp
                        have hgs : wr.grownBy (wr.setCell ⟨go, y, none⟩ (.int .i64 v)) (some go) := grown_set ⟨rfl, rfl, rfl, Nat.le_refl _, fun _ _ _ => rfl⟩ go y _
                        have HL2 : Hid (Own (wr.setCell ⟨go, y, none⟩ (.int .i64 v)) (w.heap.size + 1) (.slice (some ⟨gl, 0, none⟩) Q.length capl) (nI Q)) := HQL.out.kept hgs (.inr (by simp [Value.ownBlock]; exact hne))
                        have HO2 : Hid (Own (wr.setCell ⟨go, y, none⟩ (.int .i64 v)) (w.heap.size + 1) (.slice (some ⟨gn, 0, none⟩) ln nc) (nbL zs x zs.length)) := HON.out.kept hgs (.inr (by simp [Value.ownBlock]; exact hn3))
                        have HD2 : Hid (Own (wr.setCell ⟨go, y, none⟩ (.int .i64 v)) (w.heap.size + 1) (.slice (some ⟨go, 0, none⟩) zs.length capo) (D.set y (v : Int))) := by
                          have := (World.ownsRow.stored HOW.out y (.int .i64 v)).1
                          rw [← List.map_set] at this
                          show Own _ _ _ _
                          unfold Own
                          rw [List.length_set, HQ.out.len]
                          exact this
                        have HLW : Hid ((wr.setCell ⟨go, y, none⟩ (.int .i64 v)).ownsRow (w.heap.size + 1) 2 1 (.slice (some ⟨gl, 0, none⟩) Q.length capl) Q.length ((nI Q).map (Value.int .i64))) := by
                          have := HL2.out; unfold Own at this; rw [nI_length] at this; exact this
                        have HNW : Hid (∀ j u, [Value.int .i64 (y : Int)][j]? = some u → ((wr.setCell ⟨go, y, none⟩ (.int .i64 v)).alloc (.cells #[.int .i64 (y : Int)] 2)).cell? ((⟨wr.heap.size, 0, none⟩ : Addr).add j) = some u) := by
                          have h := cell_one_new (wr.setCell ⟨go, y, none⟩ (.int .i64 v)) (.int .i64 (y : Int)) 2
                          rw [hs] at h
                          exact h
                        have hgolt : go < wr.heap.size := HD.out.lt go rfl
                        have hgnlt : gn < wr.heap.size := HON.out.lt gn rfl
                        have HB2 := Lib.hid ((hB.setCell (p := ⟨go, y, none⟩) (by simpa using hgo) (.int .i64 v)).alloc (by rw [hs]; exact l1) (.cells #[.int .i64 (y : Int)] 2))
                        clear hgs HQ hy
                        go_wp2_with (at_builtin; refine wpList_append_lies _ rfl _ _ 36 rfl (w.heap.size + 1) 2 i0 (.int .i64 0) 1 8 Tryd.underlying36 HI.out HI0.out HI1.out HI2.out rfl (by decide) (.slice (some ⟨gl, 0, none⟩) Q.length capl) Q.length _ rfl (World.ownsRow.alloc HLW.out _) ⟨wr.heap.size, 0, none⟩ 1 1 [.int .i64 y] rfl rfl HNW.out (by simp [Value.oneCell']) (by decide) (by unfold maxLen; omega) (by omega) (by simp; omega) (wr.heap.size + 1) (by simp) ?_; intro gg cp w3 hown3 hgr3 hat3 hlt3)
                        have hat4 : gg = gl ∨ gg = wr.heap.size + 1 := by
                          rcases hat3 with h | h
                          · exact .inl (by have : gl = gg := by simpa [Value.ownBlock] using h
                                           omega)
                          · exact .inr h
                        have hne3 : gg ≠ go := by omega
                        have hne4 : gg ≠ gn := by omega
                        have HD3 : Hid (Own w3 (w.heap.size + 1) (.slice (some ⟨go, 0, none⟩) zs.length capo) (D.set y (v : Int))) := (show Own _ _ _ _ from World.ownsRow.alloc HD2.out _).kept hgr3 (.inr (by simp [Value.ownBlock]; omega))
                        have HO3 : Hid (Own w3 (w.heap.size + 1) (.slice (some ⟨gn, 0, none⟩) ln nc) (nbL zs x zs.length)) := (show Own _ _ _ _ from World.ownsRow.alloc HO2.out _).kept hgr3 (.inr (by simp [Value.ownBlock]; omega))
                        have HL3 : Hid (Own w3 (w.heap.size + 1) (.slice (some ⟨gg, 0, none⟩) (Q ++ [y]).length cp) (nI (Q ++ [y]))) := by
                          show World.ownsRow _ _ _ _ _ _ _
                          rw [nI_length, nI_append, List.map_append, List.length_append]
                          exact hown3
                        have B3 : Below (w.heap.size + 1) (w.alloc (.cells #[.int .i64 zs.length, .slice (some ⟨b, off, none⟩) zs.length cap] 38)) w3 := HB2.out.grown hgr3 (by simpa using HB2.out.size) (fun k e => by cases e; exact (World.ownsRow.lt HLW.out gl rfl).1)
                        have hxq : (Q ++ [y])[k]? = some x := by
                          rw [List.getElem?_append_left (List.getElem?_eq_some_iff.1 hx).1]; exact hx
                        clear hown3 hgr3 hat3 hat4 HL2 HD2 HO2 HLW HNW HB2 HOW hB HQL HD HON hcn hoy hfy
                        go_wp2
                        go_roundw
                        case rel => exact ⟨Q ++ [y], D.set y (v : Int), m + 1, gg, cp, by go_num, by rw [List.length_append]; rfl, by omega, hxq, HN, HD3, HL3, HO3, hne3, hne4, B3⟩
                        case measure => simp [intOf]; omega
                    · have hml : m = ln := by omega
                      have HN := Lib.hid (PInv.next hx (by rw [← HLN.out, ← hml]; exact HQ.out))
                      have hkl3 : k < Q.length := (List.getElem?_eq_some_iff.1 hx).1
                      clear HQ HON
                      go_wp2
                      go_roundw
                      case rel => exact ⟨Q, D, k + 1, gl, capl, by go_num, rfl, by omega, HN, HD, HQL, hne, hB⟩
                      case measure => simp [intOf]; omega
              · have hkl2 : k = Q.length := by omega
                have HN : Hid (LdF zs D (v + 1)) := by
                  show LdF _ _ _
                  rw [hkl2] at HQ
                  exact HL.out.pass hvl hm0 HQ.out
                clear HQ HQL
                go_wp2
                go_roundw
                case rel => exact ⟨v + 1, D, by go_num, by omega, HN, HD, hB⟩
                case measure => simp [intOf]; omega
        · have hvl : v = zs.length := by omega
          have HF : Hid (LdF zs D0 zs.length) := by show LdF _ _ _; rw [← hvl]; exact HL.out
          have BF := DW.trans (hB.mono (by simp))
          clear HL
          go_wp2
          go_ret
          first | exact ⟨_, rfl, D0, HD.out.base (by omega), HF.out, BF⟩ | exact ⟨_, D0, rfl, HD.out.base (by omega), HF.out, BF⟩
end Go.Proofs.YtbacocldjcenjaaDoor
