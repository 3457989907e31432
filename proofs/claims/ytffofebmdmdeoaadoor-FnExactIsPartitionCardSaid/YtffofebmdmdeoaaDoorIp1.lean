/-
  impl.partitionOf[int64].
-/
import Derived.Test.YtffofebmdmdeoaaDoorIp0
import Derived.Test.YtffofebmdmdeoaaDoorEq0
namespace Go.Proofs.YtffofebmdmdeoaaDoor
set_option maxRecDepth 100000
open Go.RowKit Go.Maps Go.WideMaps Go.WideElems

theorem keyedI : Keyed Tryd.prog 2 := int_keyed Tryd.underlying2
theorem key_int (x : Int) (h : (Lit.int .i64 x).wf = true) : keyOf Tryd.prog 2 (.int .i64 x) = some (litI x) := by
  simp [keyOf, mapKey, Tryd.underlying2, litI, h]
theorem Blk.kept2 {w w' : World} {g : Nat} {zs : List Int} {row : Option Nat} (h : Blk w g zs) (hg : w.grownBy w' row) (hne : some g ≠ row) : Blk w' g zs := (hg.block g h.lt hne).trans h
/-- The list behind i rounds. -/
def mxP (zs : List Int) (i : Nat) : List Int := parF [] (zs.take i) ++ List.replicate (zs.length - i) 0
theorem mxP_length (zs : List Int) (i : Nat) (h : i ≤ zs.length) : (mxP zs i).length = zs.length := by
  unfold mxP; rw [List.length_append, parF_length, List.length_take, List.length_replicate]; omega
theorem mxP_zero (zs : List Int) : mxP zs 0 = List.replicate zs.length 0 := by simp [mxP, parF]
theorem mxP_all (zs : List Int) : mxP zs zs.length = parF [] zs := by simp [mxP]
theorem take_el (zs : List Int) (i : Nat) (h : i < zs.length) : zs.take (i + 1) = zs.take i ++ [el zs i] := by
  rw [List.take_succ_eq_append_getElem h]; simp [el, h]
theorem mxP_succ (zs : List Int) (i : Nat) (h : i < zs.length) : (mxP zs i).set i (((dS (dstF [] (zs.take i)) (el zs i)).idxOf (el zs i) : Nat) : Int) = mxP zs (i + 1) := by
  unfold mxP
  have hl : (parF [] (zs.take i)).length = i := by rw [parF_length, List.length_take]; omega
  rw [List.set_append_right _ _ (by rw [hl]; exact Nat.le_refl _), hl, Nat.sub_self, take_el zs i h, parF_snoc, List.append_assoc]
  congr 1
  rw [show zs.length - i = zs.length - (i + 1) + 1 by omega, List.replicate_succ]
  rfl

set_option maxHeartbeats 1600000 in
theorem partI_at (pa : Option Addr) (pc : Nat) (zs : List Int) (w : World) (h : Sl w (.slice pa zs.length pc) zs) (hl : zs.length ≤ 62) (hwf : ∀ i, i < zs.length → (Lit.int .i64 (el zs i)).wf = true) :
    Calls Tryd.prog 36 #[.slice pa zs.length pc] w fun e w' => (∃ u, e = .returned u ∧ Own w' w.heap.size u (parF [] zs)) ∧ Below w.heap.size w w' := by
  have hmm := @run_makeMap Tryd.prog
  have hmk := fun W => run_mkInts zs.length (by omega) W
  have HS := Lib.hid h
  clear h
  obtain ⟨W, hW⟩ : ∃ W, W = (w.alloc (.map #[] 0)).alloc (.cells (intsA (List.replicate zs.length 0)) 2) := ⟨_, rfl⟩
  have D0 : Below w.heap.size w W := by rw [hW]; exact ((Below.refl _ _).alloc (Nat.le_refl _) _).alloc (by simp) _
  have sW : W.heap.size = w.heap.size + 2 := by rw [hW]; simp
  have HM0 : Hid (NM litI W 2 w.heap.size (dstF [] (zs.take 0))) := by show NM _ _ _ _ _; rw [hW]; exact (NM.made litI w _).below ((Below.refl _ _).alloc (Nat.le_refl _) _)
  have HB0 : Hid (Blk W (w.heap.size + 1) (mxP zs 0)) := by show Blk _ _ _; rw [mxP_zero, hW]; have := Blk.new (w.alloc (.map #[] 0)) (List.replicate zs.length 0); rw [World.size_alloc] at this; exact this
  have HWF := Lib.hid hwf
  clear hwf
  go_enter Tryd.func36, Tryd.ntmps36
  go_wp2_with fail
  rw [← hW]
  clear hW hmm hmk
  go_loopw [15] (fun c wr => ∃ i : Nat, i ≤ zs.length ∧ c = .int .i64 i ∧ Hid (NM litI wr 2 w.heap.size (dstF [] (zs.take i))) ∧ Hid (Blk wr (w.heap.size + 1) (mxP zs i)) ∧ Below w.heap.size w wr ) (fun c _ => zs.length - (intOf c).toNat)
  case atStart => exact ⟨0, Nat.zero_le _, rfl, HM0, HB0, D0⟩
  case round =>
    obtain ⟨i, hi, rfl, HM, HB, hE⟩ := hrel
    by_cases hlt : (i : Int) < zs.length
    · have hil : i < zs.length := by omega
      have hi0 : (0 : Int) ≤ i := by omega
      obtain ⟨b, off, rfl, hb, hc⟩ : ∃ b off, pa = some ⟨b, off, none⟩ ∧ b < wr.heap.size ∧ Cells wr b off zs := by
        rcases HS.out.below hE with ⟨_, _, _, h0⟩ | ⟨b, off, cap, he, hb, hc⟩
        · rw [h0] at hil; simp at hil
        · injection he with e1 _ _; exact ⟨b, off, e1, hb, hc⟩
      have hz := hc i hil
      have hkey := key_int (el zs i) (HWF.out i hil)
      have hdl := dstF_length (zs.take i) []
      have htl : (zs.take i).length = i := by rw [List.length_take]; omega
      have hnx : dstF [] (zs.take (i + 1)) = dS (dstF [] (zs.take i)) (el zs i) := by rw [take_el zs i hil, dstF_snoc]
      have hmx := mxP_succ zs i hil
      have hbl := mxP_length zs i hi
      obtain ⟨d, hd⟩ : ∃ d, d = dstF [] (zs.take i) := ⟨_, rfl⟩
      obtain ⟨z, hzz⟩ : ∃ z, z = el zs i := ⟨_, rfl⟩
      rw [← hd] at HM hdl hnx hmx
      rw [← hzz] at hz hkey hnx hmx
      have HNX := Lib.hid hnx; have HMX := Lib.hid hmx; have HKEY := Lib.hid hkey
      have hd62 : d.length ≤ 62 := by simp at hdl; omega
      have hbi : i < (mxP zs i).length := by omega
      clear hc hb hkey hnx hmx hd hzz hdl htl
      by_cases hin : z ∈ d
      · have hdin : decide (z ∈ d) = true := by simpa using hin
        have hds := dS_yes hin
        rw [hds] at HNX HMX
        have f1 := HB.out.frozen i
        have c1 := HB.out.cell hbi
        have hB2 : Hid (Blk (wr.setCell ⟨w.heap.size + 1, i, none⟩ (.int .i64 (d.idxOf z))) (w.heap.size + 1) (mxP zs (i + 1))) := by show Blk _ _ _; rw [← HMX.out]; exact HB.out.set i _
        have hE2 : Below w.heap.size w (wr.setCell ⟨w.heap.size + 1, i, none⟩ (.int .i64 (d.idxOf z))) := hE.setCell (p := ⟨w.heap.size + 1, i, none⟩) (by simp) _
        have hg2 := grown_set (w := wr) (wr := wr) (g := w.heap.size + 1) ⟨rfl, rfl, rfl, Nat.le_refl _, fun _ _ _ => rfl⟩ (w.heap.size + 1) i (.int .i64 (d.idxOf z))
        have hM2 : Hid (NM litI (wr.setCell ⟨w.heap.size + 1, i, none⟩ (.int .i64 (d.idxOf z))) 2 w.heap.size (dstF [] (zs.take (i + 1)))) := by show NM _ _ _ _ _; rw [HNX.out]; exact HM.out.kept hg2 (by simp)
        clear hg2
        go_wp2_with (at_lookup; refine wpList_look_num _ rfl _ _ _ 2 rfl keyedI Tryd.underlying79 w.heap.size d rfl HM.out _ z litI_inj rfl HKEY.out true hdin ?_; intro c hcq; obtain rfl : c = (d.idxOf z : Int) := hcq hin)
        go_roundw
        case rel => exact ⟨i + 1, by omega, by go_num, hM2, hB2, hE2⟩
        case measure => simp [intOf]; omega
      · have hdin : decide (z ∈ d) = false := by simpa using hin
        have hds := dS_no hin
        rw [hds, idx_new hin] at HMX
        rw [hds] at HNX
        have HNEW := Lib.hid hin
        clear hin hds
        go_wp2_with (first
          | (at_lookup; refine wpList_look_num _ rfl _ _ _ 2 rfl keyedI Tryd.underlying79 w.heap.size d rfl HM.out _ z litI_inj rfl HKEY.out false hdin ?_; intro c _)
          | (at_len; refine wpList_len_num _ rfl _ _ 2 rfl Tryd.underlying79 w.heap.size d rfl HM.out ?_)
          | (at_mapUpdate; refine wpList_put_num _ rfl _ _ _ _ 2 rfl keyedI Tryd.underlying79 w.heap.size d rfl HM.out (by unfold maxLen; omega) _ z litI_inj rfl HKEY.out trivial HNEW.out rfl ?_; intro w2 hM1 hg1; have c1 := (HB.out.kept2 hg1 (by simp)).cell hbi; have f1 := (HB.out.kept2 hg1 (by simp)).frozen i; have HM1 := Lib.hid hM1; have HG1 := Lib.hid hg1; clear hM1 hg1))
        have hB1 : Blk w2 (w.heap.size + 1) (mxP zs i) := HB.out.kept2 HG1.out (by simp)
        have hE1 : Below w.heap.size w w2 := hE.grown HG1.out hE.size (fun k e => by cases e; exact Nat.le_refl _)
        have hg2 := grown_set (w := w2) (wr := w2) (g := w.heap.size + 1) ⟨rfl, rfl, rfl, Nat.le_refl _, fun _ _ _ => rfl⟩ (w.heap.size + 1) i (.int .i64 d.length)
        go_roundw
        case rel =>
          refine ⟨i + 1, by omega, by go_num, ?_, ?_, hE1.setCell (p := ⟨w.heap.size + 1, i, none⟩) (by simp) _⟩
          · show NM _ _ _ _ _; rw [HNX.out]; exact HM1.out.kept hg2 (by simp)
          · show Blk _ _ _; rw [← HMX.out]; exact hB1.set i _
        case measure => simp [intOf]; omega
    · obtain rfl : i = zs.length := by omega
      go_wp2_with fail
      go_ret
      refine ⟨⟨_, rfl, ?_⟩, hE⟩
      have h := Own.of_blk HB.out (show w.heap.size ≤ w.heap.size + 1 by omega) (by unfold maxLen; rw [mxP_length _ _ hi]; omega)
      rw [mxP_length _ _ hi, mxP_all] at h
      exact h
theorem partI_any (v : Value) (zs : List Int) (w : World) (h : Sl w v zs) (hl : zs.length ≤ 62) (hwf : ∀ i, i < zs.length → (Lit.int .i64 (el zs i)).wf = true) :
    Calls Tryd.prog 36 #[v] w fun e w' => (∃ u, e = .returned u ∧ Own w' w.heap.size u (parF [] zs)) ∧ Below w.heap.size w w' := by
  have f := slForm h
  rw [f] at h ⊢
  exact partI_at _ _ zs w h hl hwf
end Go.Proofs.YtffofebmdmdeoaaDoor
