/-
  spec.l08Sequence. (A plain seat.)
-/
import Derived.Test.YtaekecccpgcgiaaWq2
import Derived.Deep.LoopGhost
import Derived.Deep.DeepCutAuto
namespace Go.Proofs.Ytaekecccpgcgiaa
set_option maxRecDepth 100000
open Go.RowKit

theorem el_nI (l : List Nat) (i : Nat) : el (nI l) i = ((l.getD i 0 : Nat) : Int) := by
  unfold nI el
  simp only [List.getD_eq_getElem?_getD, List.getElem?_map]
  cases l[i]? <;> rfl
theorem nI_take (l : List Nat) (m : Nat) : nI (l.take m) = (nI l).take m := by simp [nI]
theorem nI_set (l : List Nat) (m x : Nat) : nI (l.set m x) = (nI l).set m (x : Int) := by simp [nI]
theorem own_slice9 {w : World} {B : Nat} {u : Value} {L : List Int} (h : Own w B u L) : ∃ a l c, u = .slice a l c := by
  rcases h.form with ⟨rfl, _⟩ | ⟨g, cap, rfl, _⟩
  · exact ⟨_, _, _, rfl⟩
  · exact ⟨_, _, _, rfl⟩
theorem Own.cellAt9 {w : World} {B g cap : Nat} {L : List Int} (h : Own w B (.slice (some ⟨g, 0, none⟩) L.length cap) L) {i : Nat} (hi : i < L.length) : w.cell? ⟨g, i, none⟩ = some (.int .i64 (el L i)) :=
  (World.ownsRow.cellAt h i (by omega)).trans (map_at L i hi)
theorem own_some9 {w : World} {B : Nat} {u : Value} {L : List Int} (h : Own w B u L) (h0 : 0 < L.length) : ∃ g cap, u = .slice (some ⟨g, 0, none⟩) L.length cap ∧ B ≤ g ∧ g < w.heap.size := by
  rcases h.form with ⟨_, rfl⟩ | ⟨g, cap, h1, h2, h3⟩
  · simp at h0
  · exact ⟨g, cap, h1, h2, h3⟩

/-- The word that a slice reads as, in a block of its own from block B on. -/
def Wd (w : World) (B : Nat) (v : Value) (wd : List Nat) : Prop := ∃ g cap, v = .slice (some ⟨g, 0, none⟩) wd.length cap ∧ B ≤ g ∧ g < w.heap.size ∧ Cells w g 0 (nI wd)
theorem Wd.below {w w' : World} {B : Nat} {v : Value} {wd : List Nat} (h : Wd w B v wd) (hb : Below w.heap.size w w') : Wd w' B v wd := by
  obtain ⟨g, cap, e, h1, h2, h3⟩ := h
  exact ⟨g, cap, e, h1, Nat.lt_of_lt_of_le h2 hb.size, h3.below hb h2⟩

theorem Own.stored9 {w : World} {B g cap : Nat} {L : List Int} (h : Own w B (.slice (some ⟨g, 0, none⟩) L.length cap) L) (j : Nat) (x : Int) :
    Own (w.setCell ⟨g, j, none⟩ (.int .i64 x)) B (.slice (some ⟨g, 0, none⟩) (L.set j x).length cap) (L.set j x) := by
  have ho : w.ownsRow B 2 1 (.slice (some ⟨g, 0, none⟩) L.length cap) L.length (L.map (Value.int .i64)) := h
  have := World.ownsRow.stored ho j (.int .i64 x)
  rw [← List.map_set] at this
  unfold Own
  rw [List.length_set]
  exact this.1
theorem Own.cells9 {w : World} {B g n cap : Nat} {L : List Int} (h : Own w B (.slice (some ⟨g, 0, none⟩) n cap) L) (hn : n = L.length) : Cells w g 0 L := by
  subst hn
  intro i hi
  rw [Nat.zero_add]
  exact h.cellAt9 hi
theorem Own.cap9 {w : World} {B g n cap : Nat} {L : List Int} (h : Own w B (.slice (some ⟨g, 0, none⟩) n cap) L) : L.length ≤ cap := by
  rcases h.2 with ⟨e, _⟩ | ⟨g', cap', cur, e, hb, hg, hc, _⟩
  · cases e
  · cases e; exact hc
theorem Own.frozen9 {w : World} {B g n cap : Nat} {L : List Int} (h : Own w B (.slice (some ⟨g, 0, none⟩) n cap) L) (i : Nat) : w.frozen? ⟨g, i, none⟩ = false := by
  rcases h.2 with ⟨e, _⟩ | ⟨g', cap', cur, e, hb, hg, _⟩
  · cases e
  · cases e; exact frozen_of_row w g i _ _ hg
theorem Wd.grown {w w' : World} {B : Nat} {v : Value} {wd : List Nat} {row : Option Nat} (h : Wd w B v wd) (hg : w.grownBy w' row) (hne : ∀ q, row = some q → q < B) : Wd w' B v wd := by
  obtain ⟨g, cap, e, h1, h2, h3⟩ := h
  have hb := hg.block g h2 (fun e => by have := hne g e.symm; omega)
  refine ⟨g, cap, e, h1, Nat.lt_of_lt_of_le h2 hg.size, fun i hi => ?_⟩
  rw [← h3 i hi]
  unfold World.cell?
  simp [hb]

set_option maxHeartbeats 6400000 in
theorem specSq_some (d k : Nat) (w : World) (N : Nat) (F : List Nat × List Nat) (hd1 : 1 ≤ d) (hd : d ≤ 10) (hk1 : 1 ≤ k) (hk : k ≤ 10) (hF : lyRun d k N [] [0] = F) (hz : F.2 = []) (hlen : F.1.length ≤ 1024) :
    Calls Try.prog 34 #[.int .i64 d, .int .i64 k] w fun e w' => (∃ u, e = .returned u ∧ Own w' w.heap.size u (nI F.1)) ∧ Below w.heap.size w w' := by
  obtain ⟨i0, hi, hz0, hz1, hz2⟩ := info_parts mk_info
  have HI := Lib.hid hi; have HI0 := Lib.hid hz0; have HI1 := Lib.hid hz1; have HI2 := Lib.hid hz2
  obtain ⟨W, hW⟩ : ∃ W, W = (w.alloc (.cells #[] 2)).alloc (.cells #[.int .i64 0] 2) := ⟨_, rfl⟩
  have D0 : Below w.heap.size w W := by rw [hW]; exact ((Below.refl _ _).alloc (Nat.le_refl _) _).alloc (by simp) _
  have HO0 : Hid (Own W w.heap.size (.slice (some ⟨w.heap.size, 0, none⟩) 0 0) (nI [])) := by
    show Own _ _ _ _
    rw [hW]
    exact Own.of_blk (L := []) ((Blk.new w []).alloc _) (Nat.le_refl _) (by simp)
  have HW0 : Hid (Wd W (w.heap.size + 1) (.slice (some ⟨w.heap.size + 1, 0, none⟩) 1 1) [0]) := by
    refine ⟨_, _, rfl, Nat.le_refl _, by rw [hW]; simp, ?_⟩
    have h := Blk.new (w.alloc (.cells #[] 2)) [0]
    rw [World.size_alloc] at h
    intro i hi
    rw [Nat.zero_add, hW]
    exact Blk.cell h hi
  have HF := Lib.hid hF; have HZ := Lib.hid hz; have HN := Lib.hid hlen
  clear hF hz hlen hi hz0 hz1 hz2
  go_enter Try.func34, Try.ntmps34
  go_wp2_with fail
  rw [← hW]
  clear hW
  go_loopg [5, 6, 7, 8] N (fun n u v _ _ wr => ∃ (o wd : List Nat) (B1 : Nat), Hid (lyRun d k n o wd = F) ∧ Hid (Own wr w.heap.size u (nI o)) ∧ Hid (Wd wr B1 v wd) ∧ Hid (∀ q, u.ownBlock = some q → q < B1) ∧ Hid (w.heap.size ≤ B1) ∧ Hid (∀ x ∈ wd, x < d) ∧ Hid (wd.length ≤ 10) ∧ Below w.heap.size w wr)
  case atStart => exact ⟨[], [0], w.heap.size + 1, HF, HO0, HW0, (fun q e => by simp [Value.ownBlock] at e; omega), Nat.le_succ _, (fun x hx => by simp at hx; omega), (by show (1 : Nat) ≤ 10; omega), D0⟩
  case round =>
    obtain ⟨o, wd, B1, HR, HO, HV, HU, HB, HX', HL, hE⟩ := hrel
    obtain ⟨ua, ul, uc, hu⟩ := own_slice9 HO.out
    subst hu
    obtain ⟨gv, cv, rfl, hg1, hg2, hgc⟩ := HV.out
    have HGC := Lib.hid hgc
    clear hgc
    by_cases h0 : wd.length = 0
    · have h0' : wd = [] := List.eq_nil_of_length_eq_zero h0
      have HFE : Hid (nI F.1 = nI o) := by show _ = _; rw [← HR.out, h0', lyRun_nil]
      rw [h0]
      clear h0 h0' HV HGC
      go_wp2_with fail
      go_ret
      exact ⟨⟨_, rfl, by rw [HFE.out]; exact HO.out⟩, hE⟩
    · have hne : wd ≠ [] := fun e => h0 (by rw [e]; rfl)
      obtain ⟨mf, rfl, hstep⟩ := lyRun_step (n := gk) hne (by rw [HR.out]; exact HZ.out)
      rw [HR.out] at hstep
      obtain ⟨L, hLd⟩ : ∃ L, L = wd.length := ⟨_, rfl⟩
      rw [← hLd] at h0 hstep HL HV ⊢
      have hL10 := HL.out
      have hL0 : (0 : Int) < L := by omega
      have hLn : ¬ (L : Int) = 0 := by omega
      obtain ⟨r0, hr0⟩ : ∃ r0, r0 = k % L := ⟨_, rfl⟩
      have hmod : (k : Int) % (L : Int) = (r0 : Int) := by rw [hr0]; simp
      have hr0k : r0 ≤ 10 := by rw [hr0]; exact Nat.le_trans (Nat.mod_le _ _) hk
      obtain ⟨o2, ho2⟩ : ∃ o2, o2 = if k % L == 0 then o ++ wd else o := ⟨_, rfl⟩
      rw [← ho2] at hstep
      have HST := Lib.hid hstep
      rw [← hr0] at ho2
      have HO2 := Lib.hid ho2
      have HLD := Lib.hid hLd
      have hfl : o2.length ≤ 1024 := by
        have := lyRun_more d k mf o2 (lyNext d k wd)
        rw [← hstep] at this
        exact Nat.le_trans this HN.out
      have HFL := Lib.hid hfl
      have HNE := Lib.hid hne
      clear hstep ho2 hLd hfl hr0 hne
      go_upto_if 18 with fail
      go_cut [5] (fun t wx => ∃ a l c, t = .slice a l c ∧ Hid (Own wx w.heap.size (.slice a l c) (nI o2)) ∧ Hid (Wd wx B1 (.slice (some ⟨gv, 0, none⟩) L cv) wd) ∧ Below w.heap.size w wx)
      case first =>
        by_cases hr : r0 = 0
        · have HO3 : Hid (o2 = o ++ wd) := by show _ = _; rw [HO2.out, hr]; rfl
          subst hr
          have hu0 := (World.ownsRow.lt HO.out : ∀ q, _ → _)
          have hol : o.length ≤ 1024 ∧ wd.length ≤ 1024 := by have h := HFL.out; rw [HO3.out, List.length_append] at h; omega
          have HOL := Lib.hid hol
          have HCE : Hid (∀ j u, ((nI wd).map (Value.int .i64))[j]? = some u → wr.cell? ((⟨gv, 0, none⟩ : Addr).add j) = some u) := fun j u hj => by
            have hjl : j < (nI wd).length := by
              have := (List.getElem?_eq_some_iff.1 hj).1
              simpa using this
            rw [map_at _ j hjl] at hj
            cases hj
            have hz := HGC.out j hjl
            simp only [Addr.add]
            split
            · rename_i h0; subst h0; simpa using hz
            · exact hz
          clear hol hu0
          go_wp2_with (at_builtin; refine wpList_append_own _ rfl (.tmp 19) (.tmp 20) 25 rfl w.heap.size 2 i0 (.int .i64 0) 1 8 Try.underlying25 HI.out HI0.out HI1.out HI2.out rfl (by decide) _ _ _ rfl HO.out ⟨gv, 0, none⟩ L cv ((nI wd).map (Value.int .i64)) rfl (by rw [List.length_map, nI_length, HLD.out, Nat.mul_one]) HCE.out (by simp [Value.oneCell']) (by have h := HOL.out; have h2 := HLD.out; rw [nI_length]; unfold maxLen; omega) (by have h := HOL.out; have h2 := HLD.out; rw [nI_length]; omega) hE.size ?_; intro u' w3 hown3 hgr3 _; obtain ⟨qa, ql, qc, rfl⟩ := own_slice9 (L := nI o2) (by show World.ownsRow _ _ _ _ _ _ _; rw [HO3.out, nI_append, List.length_append, List.map_append, nI_length wd, ← HLD.out]; exact hown3); have HO4 := Lib.hid hown3; have HG4 := Lib.hid hgr3; clear hown3 hgr3)
          have HO5 : Hid (Own w3 w.heap.size (.slice qa ql qc) (nI o2)) := by
            show World.ownsRow _ _ _ _ _ _ _
            rw [HO3.out, nI_append, List.length_append, List.map_append, nI_length wd, ← HLD.out]
            exact HO4.out
          have HV5 : Hid (Wd w3 B1 (.slice (some ⟨gv, 0, none⟩) L cv) wd) := HV.out.grown HG4.out HU.out
          have E5 : Below w.heap.size w w3 := hE.grown HG4.out hE.size (fun q e => HO.out.ge q e)
          clear HO4 HG4
          go_wp2_with fail
          go_meet
          exact ⟨_, _, _, rfl, HO5, HV5, E5⟩
        · have HO3 : Hid (o2 = o) := by show _ = _; rw [HO2.out, if_neg (by simpa using hr)]
          have hb : ((r0 : Int) == 0) = false := by simp; omega
          have hb2 : ¬ (r0 : Int) = 0 := by omega
          have HO5 : Hid (Own wr w.heap.size (.slice ua ul uc) (nI o2)) := by rw [HO3.out]; exact HO
          clear hr
          go_wp2_with fail
          go_meet
          exact ⟨_, _, _, rfl, HO5, HV, hE⟩
      case rest =>
        obtain ⟨qa, ql, qc, rfl, HO, HV, hE2⟩ := hcut
        rename_i hK0
        refine hK0 _ _ ?_
        have hE := hE2
        clear hE2 hmod
        obtain ⟨W1, hW1⟩ : ∃ W1, W1 = wc.alloc (.cells #[] 2) := ⟨_, rfl⟩
        obtain ⟨B2, hB2⟩ : ∃ B2, B2 = wc.heap.size := ⟨_, rfl⟩
        have b1 : Below B2 wc W1 := by rw [hW1, hB2]; exact (Below.refl _ _).alloc (Nat.le_refl _) _
        have HX1 : Hid (Own W1 B2 (.slice (some ⟨B2, 0, none⟩) 0 0) (nI (lyRep wd 0))) := by
          show Own _ _ _ _
          rw [hW1, hB2]
          exact Own.of_blk (L := []) (Blk.new wc []) (Nat.le_refl _) (by simp)
        have hgv : gv < B2 := by
          obtain ⟨_, _, e, _, h, _⟩ := HV.out
          cases e; rw [hB2]; exact h
        have HC1 : Hid (Cells wc gv 0 (nI wd)) := by
          obtain ⟨_, _, e, _, _, h⟩ := HV.out
          cases e; exact h
        have HUQ : Hid (∀ q, (Value.slice qa ql qc).ownBlock = some q → q < B2) := fun q e => by rw [hB2]; exact (World.ownsRow.lt HO.out q e).2
        have hwB : w.heap.size ≤ B2 := by rw [hB2]; exact hE.size
        have HWC := Lib.hid hB2
        go_wp2_with fail
        rw [← hW1, ← hB2]
        clear hW1 hB2
        go_loopw [7, 8] (fun x i wr => ∃ j : Nat, j ≤ k ∧ i = .int .i64 j ∧ Hid (Own wr B2 x (nI (lyRep wd j))) ∧ Below B2 wc wr) (fun _ i _ => k - (intOf i).toNat)
        case atStart => exact ⟨0, Nat.zero_le _, rfl, HX1, b1⟩
        case round =>
          obtain ⟨j, hj, rfl, HX, hB⟩ := hrel
          obtain ⟨xa, xl, xc, hx⟩ := own_slice9 HX.out
          subst hx
          have hs2 : B2 ≤ wr.heap.size := by have := hB.size; have := HWC.out; omega
          by_cases hlt : (j : Int) < k
          · obtain ⟨r, hr⟩ : ∃ r, r = j % L := ⟨_, rfl⟩
            have hmod : (j : Int) % (L : Int) = (r : Int) := by rw [hr]; simp
            have hrL : r < L := by rw [hr]; exact Nat.mod_lt _ (by omega)
            have hrL' : (r : Int) < L := by omega
            have hr0 : (0 : Int) ≤ r := by omega
            have hj0 : (0 : Int) ≤ j := by omega
            obtain ⟨z, hz⟩ : ∃ z, z = wd.getD r 0 := ⟨_, rfl⟩
            have hc : wr.cell? ⟨gv, r, none⟩ = some (.int .i64 (z : Int)) := by
              have h := HC1.out r (by rw [nI_length, ← HLD.out]; exact hrL)
              rw [Nat.zero_add, el_nI, ← hz] at h
              exact (hB.cell (p := ⟨gv, r, none⟩) hgv).trans h
            have HNX : Hid (lyRep wd (j + 1) = lyRep wd j ++ [z]) := by show _ = _; rw [lyRep_succ, ← HLD.out, ← hr, hz]
            have hjl := lyRep_length wd j
            have HJL := Lib.hid hjl
            clear hr hz hjl
            have HX2 : Hid (Own (wr.alloc (.cells #[.int .i64 (z : Int)] 2)) B2 (.slice xa xl xc) (nI (lyRep wd j))) := HX.out.below ((Below.refl _ _).alloc (Nat.le_refl _) _)
            clear HX
            go_wp2_with (at_builtin; refine wpList_append_own _ rfl (.tmp 28) (.tmp 36) 25 rfl B2 2 i0 (.int .i64 0) 1 8 Try.underlying25 HI.out HI0.out HI1.out HI2.out rfl (by decide) _ _ _ rfl HX2.out ⟨wr.heap.size, 0, none⟩ 1 1 [.int .i64 (z : Int)] rfl rfl (cell_one_new _ _ _) (by simp [Value.oneCell']) (by have h := HJL.out; rw [nI_length]; unfold maxLen; omega) (by have h := HJL.out; rw [nI_length]; omega) (by simp; omega) ?_; intro u' w3 hown3 hgr3 _; have HO4 := Lib.hid hown3; have HG4 := Lib.hid hgr3; clear hown3 hgr3)
            have HX3 : Hid (Own w3 B2 u' (nI (lyRep wd (j + 1)))) := by
              show World.ownsRow _ _ _ _ _ _ _
              rw [HNX.out, nI_append, List.length_append, List.map_append]
              exact HO4.out
            have hB3 : Below B2 wc w3 := (hB.alloc hs2 _).grown HG4.out (by simp; omega) (fun q e => by have := HX2.out.ge q e; omega)
            clear HO4 HG4 HX2 hB
            go_wp2_with fail
            go_roundw
            case rel => exact ⟨j + 1, by omega, by go_num, HX3, hB3⟩
            case measure => simp [intOf]; omega
          · obtain rfl : j = k := by omega
            have hjl := lyRep_length wd j
            obtain ⟨g3, c3, he3, hg3, hg3'⟩ := own_some9 HX.out (by rw [nI_length, hjl]; omega)
            obtain ⟨rfl, rfl, rfl⟩ : xa = some ⟨g3, 0, none⟩ ∧ xl = j ∧ xc = c3 := by
              cases he3; rw [nI_length, hjl]; exact ⟨rfl, rfl, rfl⟩
            clear he3
            obtain ⟨K, rfl⟩ : ∃ K, K = xl := ⟨_, rfl⟩
            obtain ⟨C3, rfl⟩ : ∃ C3, C3 = xc := ⟨_, rfl⟩
            obtain ⟨LL, hLL⟩ : ∃ LL, LL = lyRep wd K := ⟨_, rfl⟩
            rw [← hLL] at hjl HX
            have HLX : Hid (∀ x ∈ LL, x < d) := by show ∀ x ∈ LL, x < d; rw [hLL]; exact lyRep_lt HX'.out HNE.out K
            have HNW : Hid (lyNext d K wd = (lyDrop d LL.reverse).reverse) := by show lyNext _ _ _ = _; rw [hLL]; rfl
            have HNX : Hid (∀ x ∈ lyNext d K wd, x < d) := lyNext_lt hd1 HX'.out HNE.out
            have HNL : Hid ((lyNext d K wd).length ≤ 10) := Nat.le_trans (lyNext_length d K wd) hk
            obtain ⟨NW, hNW⟩ : ∃ NW, NW = lyNext d K wd := ⟨_, rfl⟩
            rw [← hNW] at HNW HNX HNL HST
            have HJL := Lib.hid hjl
            have hOB : Below w.heap.size w wr := hE.trans (hB.mono hwB)
            have HOU : Hid (Own wr w.heap.size (.slice qa ql qc) (nI o2)) := HO.out.below (by have := HWC.out; rw [← this]; exact hB)
            have HUL : Hid (∀ q, (Value.slice qa ql qc).ownBlock = some q → q < B2) := HUQ
            clear hLL hNW hjl
            obtain ⟨wo, rfl⟩ : ∃ wo : World, wo = wr := ⟨_, rfl⟩
            go_wp2_with fail
            go_loopw [7] (fun x wr => ∃ m : Nat, m ≤ K ∧ x = .slice (some ⟨g3, 0, none⟩) m C3 ∧ Hid (lyDrop d (LL.take m).reverse = lyDrop d LL.reverse) ∧ ∃ i, wr = wo.drewN i) (fun x _ => match x with | .slice _ n _ => n | _ => 0)
            case atStart => exact ⟨K, Nat.le_refl _, rfl, by show _ = _; rw [← HJL.out, List.take_length], 0, rfl⟩
            case round =>
              obtain ⟨m, hm, rfl, HD, i, rfl⟩ := hrel
              by_cases h0m : m = 0
              · subst h0m
                have HN0 : Hid (NW = []) := by show _ = _; rw [HNW.out, ← HD.out]; rfl
                have hVN : Hid (Wd (wo.drewN i) B2 (.slice (some ⟨g3, 0, none⟩) 0 C3) NW) := ⟨g3, C3, by rw [HN0.out]; rfl, hg3, hg3', by rw [HN0.out]; exact fun i hi => by simp [nI] at hi⟩
                have hRN : Hid (lyRun d K mf o2 NW = F) := HST.out.symm
                go_wp2_with fail
                go_roundg mf
                case measure => omega
                case rel => exact ⟨o2, NW, B2, hRN, HOU.out.below (drewN_below (Below.refl _ _) i), hVN, HUL, hwB, HNX, HNL, drewN_below hOB i⟩
              · obtain ⟨p, rfl⟩ : ∃ p, m = p + 1 := ⟨m - 1, by omega⟩
                obtain ⟨z, hz⟩ : ∃ z, z = LL.getD p 0 := ⟨_, rfl⟩
                have hpl : p < LL.length := by have := HJL.out; omega
                have hzl : z < d := by
                  have h := HLX.out LL[p] (List.getElem_mem hpl)
                  rw [hz, List.getD_eq_getElem?_getD, List.getElem?_eq_getElem hpl]; exact h
                have hc : (wo.drewN i).cell? ⟨g3, p, none⟩ = some (.int .i64 (z : Int)) := by
                  have h := HX.out.cells9 (by rw [nI_length, HJL.out]) p (by rw [nI_length]; exact hpl)
                  rw [Nat.zero_add, el_nI, ← hz] at h
                  exact h
                have HPL := Lib.hid hpl
                have hpC : (p : Int) ≤ (C3 : Int) := by have := HX.out.cap9; rw [nI_length, HJL.out] at this; omega
                have hfz : (wo.drewN i).frozen? ⟨g3, p, none⟩ = false := HX.out.frozen9 p
                have hp0 : (0 : Int) < (p : Int) + 1 := by omega
                have hp1 : (p : Int) + 1 - 1 = p := by omega
                by_cases hzd : z = d - 1
                · have HD2 : Hid (lyDrop d (LL.take p).reverse = lyDrop d LL.reverse) := by show _ = _; rw [← lyDrop_take hpl (by rw [← hz]; exact hzd)]; exact HD.out
                  have hzb : ((z : Int) == (d : Int) - 1) = true := by simp; omega
                  have hzi : (z : Int) = (d : Int) - 1 := by omega
                  clear hz hpl hzl hzd
                  go_wp2_with fail
                  go_roundw
                  case rel => exact ⟨p, by omega, rfl, HD2, i, rfl⟩
                  case measure => exact Nat.lt_succ_self _
                · have HD2 : Hid (NW = (LL.take (p + 1)).set p (z + 1)) := by show _ = _; rw [HNW.out, ← HD.out, hz]; exact lyDrop_stop hpl (by rw [← hz]; exact hzd)
                  have hzb : ((z : Int) == (d : Int) - 1) = false := by simp; omega
                  have hzi : ¬ (z : Int) = (d : Int) - 1 := by omega
                  clear hz hpl hzd
                  go_wp2_with fail
                  go_roundg mf
                  case measure => omega
                  case rel =>
                    have h9 : Own (wo.drewN i) B2 (.slice (some ⟨g3, 0, none⟩) (nI LL).length C3) (nI LL) := by rw [nI_length, HJL.out]; exact HX.out.below (drewN_below (Below.refl _ _) i)
                    have h8 := h9.stored9 p ((z : Int) + 1)
                    have hcells := h8.cells9 rfl
                    have hlen8 : (nI NW).length = p + 1 := by rw [HD2.out, nI_length, List.length_set, List.length_take]; have := HPL.out; omega
                    have hVN : Wd ((wo.drewN i).setCell ⟨g3, p, none⟩ (.int .i64 ((z : Int) + 1))) B2 (.slice (some ⟨g3, 0, none⟩) (p + 1) C3) NW := by
                      refine ⟨g3, C3, by rw [← hlen8, nI_length], hg3, by simpa using hg3', fun q hq => ?_⟩
                      rw [hcells q (by rw [List.length_set, nI_length]; have := HPL.out; omega), HD2.out, nI_set, nI_take]
                      congr 2
                      rw [hlen8] at hq
                      unfold el
                      rw [List.getD_eq_getElem?_getD, List.getD_eq_getElem?_getD, ← List.take_set, List.getElem?_take_of_lt hq]
                      rfl
                    refine ⟨o2, NW, B2, HST.out.symm, ?_, hVN, HUL, hwB, HNX, HNL, (drewN_below hOB i).setCell (p := ⟨g3, p, none⟩) (by simp; omega) _⟩
                    exact (HOU.out.below (drewN_below (Below.refl _ _) i)).kept (row := some g3) (grown_set ⟨rfl, rfl, rfl, Nat.le_refl _, fun _ _ _ => rfl⟩ g3 p _) (.inr fun e => by have := HUL.out g3 e; omega)
end Go.Proofs.Ytaekecccpgcgiaa
