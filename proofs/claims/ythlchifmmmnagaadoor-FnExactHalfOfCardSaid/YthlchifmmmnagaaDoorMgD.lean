/-
  Several texts in one: Ga Gc.
-/
import Derived.Test.YthlchifmmmnagaaDoorDr
import Derived.Test.YthlchifmmmnagaaDoorSy
import Derived.Test.YthlchifmmmnagaaDoorMgA
import Derived.Test.YthlchifmmmnagaaDoorTt
import Derived.Deep.DeepCutAuto
import Derived.Deep.RegionWith
namespace Go.Proofs.YthlchifmmmnagaaDoor
set_option maxRecDepth 100000
set_option maxRecDepth 100000
open Go.RowKit

/-- v and x are at the distance i. -/
def gaF (zs : List Int) (i : Int) (v x : Nat) : Bool := decide (el (dsL zs v) x = i)
/-- The rows of the graph at the distance i. -/
def gaR (zs : List Int) (i : Int) : List Int := rowsF zs.length (adjS (whereS (gaF zs i) zs.length))
theorem gaR_length (zs : List Int) (i : Int) : (gaR zs i).length = zs.length := rowsF_length _ _

theorem eg_at : ∀ args (W : World), (callFunc 54 args).run Tryd.prog W = .ok (.enter 54 args) W := enters_of Tryd.func54 (by kernel_rfl) rfl

set_option maxHeartbeats 1600000 in
theorem at1_any (zs : List Int) (i : Int) (gR gT r j v x : Nat) (w : World) (hd : DR w gR gT zs) (hr : w.cell? ⟨r, 0, none⟩ = some (.slice (some ⟨gR, 0, none⟩) zs.length zs.length)) (hj : w.cell? ⟨j, 0, none⟩ = some (.int .i64 i)) (hv : v < zs.length) (hx : x < zs.length) :
    Calls Tryd.prog 54 #[.int .i64 v, .int .i64 x, .pointer (some ⟨r, 0, none⟩), .pointer (some ⟨j, 0, none⟩)] w fun e w' => e = .returned (.bool (gaF zs i v x)) ∧ Below w.heap.size w w' := by
  have hrow := hd.row hv
  have hdist := hd.dist hv hx
  obtain ⟨o, ho⟩ : ∃ o, o = v * zs.length := ⟨_, rfl⟩
  rw [← ho] at hrow hdist
  have hv0 : (0 : Int) ≤ v := by omega
  have hx0 : (0 : Int) ≤ x := by omega
  have hvi : (v : Int) < zs.length := by omega
  have hxi : (x : Int) < zs.length := by omega
  have hf : gaF zs i v x = decide (el (dsL zs v) x = i) := rfl
  rw [hf]
  generalize el (dsL zs v) x = d at *
  have he : (decide (d = i)) = (d == i) := rfl
  rw [he]
  clear hd ho hf he
  generalize hb : (d == i) = t
  cases t
  all_goals
    go_enter Tryd.func54, Tryd.ntmps54
    go_wp2_with fail
    go_quiet (fail)
    go_wp2_with fail
    go_ret
    exact ⟨rfl, drewN_below (Below.refl _ _) _⟩

set_option maxHeartbeats 1600000 in
theorem implAt_some (b ob cap : Nat) (zs : List Int) (i : Int) (w : World) (hb : b < w.heap.size) (hc : Cells w b ob zs) (hg : isG zs.length zs = true) (hT : Tab w) :
    Calls Tryd.prog 33 #[.agg #[.int .i64 zs.length, .slice (some ⟨b, ob, none⟩) zs.length cap], .int .i64 i] w fun e w' => GRet w.heap.size zs.length (gaR zs i) e w' ∧ Below w.heap.size w w' := by
  obtain ⟨g1, g2, -, -, -⟩ := isG_parts hg
  have hl : zs.length ≤ 62 := by omega
  obtain ⟨W, hW⟩ : ∃ W, W = ((w.alloc (.cells #[.int .i64 zs.length, .slice (some ⟨b, ob, none⟩) zs.length cap] 26)).alloc (.cells #[.int .i64 i] 2)).alloc (.cells #[.int .i64 0, .slice none 0 0] 26) := ⟨_, rfl⟩
  have hsz : w.heap.size + 3 ≤ W.heap.size := by rw [hW]; simp
  have D0 : Below w.heap.size w W := by rw [hW]; exact (((Below.refl _ _).alloc (Nat.le_refl _) _).alloc (by simp) _).alloc (by simp; omega) _
  have HG0 : Hid (W.heap[w.heap.size]? = some (.cells #[.int .i64 zs.length, .slice (some ⟨b, ob, none⟩) zs.length cap] 26 (0, 0))) := by show _ = _; rw [hW]; exact heap_old_at (heap_old_at (World.alloc_heap_new w _) _) _
  have HI0 : Hid (W.heap[w.heap.size + 1]? = some (.cells #[.int .i64 i] 2 (0, 0))) := by show _ = _; rw [hW]; exact heap_old_at (heap_new_at _ _ _ (by simp)) _
  have HR0 : Hid (W.heap[w.heap.size + 2]? = some (.cells #[.int .i64 0, .slice none 0 0] 26 (0, 0))) := by show _ = _; rw [hW]; exact heap_new_at _ _ _ (by simp)
  have hdd := distRows_some b ob cap zs W (by omega) (hc.below D0 hb) hg (hT.belowAll D0)
  obtain ⟨gR, hgR⟩ : ∃ gR, gR = W.heap.size + 2 := ⟨_, rfl⟩
  obtain ⟨gT, hgT⟩ : ∃ gT, gT = W.heap.size + 1 := ⟨_, rfl⟩
  rw [← hgR, ← hgT] at hdd
  have HD := Lib.hid hdd
  have hgR2 : w.heap.size < gR := by omega
  have hmk := hmkf
  have HD0 := Lib.hid D0
  obtain ⟨a0, a1, -, -⟩ := two_cells HG0.out
  rw [hW] at a0 a1
  clear hc hg hT D0 hgR hgT hdd
  go_enter Tryd.func33, Tryd.ntmps33
  go_wp2_with fail
  rw [← hW]
  clear hW a0 a1
  refine HD.out.mono ?_
  rintro e w1 ⟨rfl, hdr, hb1⟩
  have HB1 := Lib.hid hb1
  have s1 := hb1.size
  have HDR := Lib.hid hdr
  clear hb1 hdr HD
  obtain ⟨w2, hw2⟩ : ∃ w2, w2 = w1.alloc (.cells #[.slice (some ⟨gR, 0, none⟩) zs.length zs.length] 42) := ⟨_, rfl⟩
  have hb2 : Below w1.heap.size w1 w2 := by rw [hw2]; exact (Below.refl _ _).alloc (Nat.le_refl _) _
  have HX2 : Hid (w2.heap[w1.heap.size]? = some (.cells #[.slice (some ⟨gR, 0, none⟩) zs.length zs.length] 42 (0, 0))) := by show _ = _; rw [hw2]; exact World.alloc_heap_new w1 _
  have HDR2 := Lib.hid (HDR.out.below hb2)
  have HB2 := Lib.hid (HB1.out.trans (hb2.mono s1))
  have s2 : w1.heap.size + 1 ≤ w2.heap.size := (Array.getElem?_eq_some_iff.1 HX2.out).1
  obtain ⟨a0, a1, -, -⟩ := two_cells ((HB2.out.block w.heap.size (by omega)).trans HG0.out)
  have HWH := Lib.hid (where_any 54 (.pointer (some ⟨w1.heap.size, 0, none⟩)) (.pointer (some ⟨w.heap.size + 1, 0, none⟩)) (gaF zs i) zs.length w2 hl eg_at (fun v x W3 hvx hx h => by
    refine at1_any zs i gR gT w1.heap.size (w.heap.size + 1) v x W3 (HDR2.out.below h) ?_ ?_ (by omega) hx
    · rw [cell_of_row W3 _ 0 _ _ _ ((h.block _ (by omega)).trans HX2.out)]; rfl
    · rw [cell_of_row W3 _ 0 _ _ _ ((h.block _ (by omega)).trans ((HB2.out.block _ (by omega)).trans HI0.out))]; rfl))
  rw [hw2] at a0 a1
  go_wp2_with fail
  rw [← hw2]
  clear hw2 a0 a1 hmk hb2
  refine HWH.out.mono ?_
  rintro e w3 ⟨⟨g, rfl, hB, hgg⟩, hb3⟩
  have RB := Lib.hid ((hb3.block (w.heap.size + 1 + 1) (by omega)).trans ((HB2.out.block (w.heap.size + 1 + 1) (by omega)).trans HR0.out))
  obtain ⟨r0, r1, q0, q1⟩ := two_cells RB.out
  have HB := Lib.hid hB
  have E3 := Lib.hid (HD0.out.trans ((HB2.out.trans (hb3.mono (by omega))).mono (by omega)))
  clear hB hb3 HWH
  go_wp2_with fail
  have hfin := two_set (a := .int .i64 zs.length) (b := .slice (some ⟨g, 0, none⟩) zs.length zs.length) RB.out
  refine bodyPost_ret (v := .agg #[.int .i64 zs.length, .slice (some ⟨g, 0, none⟩) zs.length zs.length]) (results_cell_row (p := 4) (ty := 26) rfl _ _ (w.heap.size + 1 + 1) 26 _ (0, 0) _ rfl hfin Tryd.underlying26 rfl (by exact info27)) rfl ⟨⟨_, rfl, ?_, by omega⟩, ?_⟩
  · exact (HB.out.other (by simp; omega) _).other (by simp; omega) _
  · exact (E3.out.setCell (p := ⟨w.heap.size + 1 + 1, 0, none⟩) (by simp; omega) _).setCell (p := ⟨w.heap.size + 1 + 1, 1, none⟩) (by simp; omega) _

def gaOk (i : Int) : Bool := decide (1 ≤ i) && decide (i ≤ 61)
def GaN (n : Int) (zs : List Int) (i : Int) : Int := if isG n zs && gaOk i then n else 0
def GaL (n : Int) (zs : List Int) (i : Int) : List Int := if isG n zs && gaOk i then gaR zs i else []
def GaC (n : Int) (zs : List Int) (i : Int) : Int := if isG n zs then (if gaOk i then 0 else 2) else 1
theorem GaL_length (n : Int) (zs : List Int) (i : Int) : (GaL n zs i).length ≤ 62 := by
  unfold GaL
  cases h : isG n zs && gaOk i with
  | true =>
    rw [if_pos rfl, gaR_length]
    simp only [Bool.and_eq_true] at h
    have := isG_parts h.1
    omega
  | false => simp

end Go.Proofs.YthlchifmmmnagaaDoor
namespace Go.Proofs.YthlchifmmmnagaaDoor
set_option maxRecDepth 100000
set_option maxRecDepth 100000
open Go.RowKit

/-- In W the slice u reads as the rows of distances. -/
def RdD (W : World) (gu : Nat) (zs : List Int) : Prop := ∀ v, v < zs.length → ∃ p c, W.cell? ⟨gu, v, none⟩ = some (.slice (some ⟨p, 0, none⟩) zs.length c) ∧ ∀ x, x < zs.length → W.cell? ⟨p, x, none⟩ = some (.int .i64 (el (dsL zs v) x))
theorem cell_same {W W' : World} {k i : Nat} (h : W'.heap[k]? = W.heap[k]?) : W'.cell? ⟨k, i, none⟩ = W.cell? ⟨k, i, none⟩ := by
  unfold World.cell?
  simp only [h]
/-- The rows made by a call are read wherever the blocks that the call made are as they were. -/
theorem TS.rdD {W2 W' : World} {B gu cu : Nat} {zs : List Int} (h : TS W2 B (.slice (some ⟨gu, 0, none⟩) zs.length cu) (dsLL zs zs.length)) (hs : ∀ k, B ≤ k → k < W2.heap.size → W'.heap[k]? = W2.heap[k]?) : RdD W' gu zs := by
  intro v hv
  obtain ⟨cs, h1, h2, h3⟩ := h
  rw [dsLL_length] at h1 h2 h3
  have hgu := World.ownsRow.lt h1 gu rfl
  obtain ⟨u, a, b, _, _⟩ := h3 v hv
  rw [dsLL_at hv] at b
  have hc := (World.ownsRow.cellAt h1 v (by omega)).trans a
  rcases b.form with ⟨_, h0⟩ | ⟨g, cap, rfl, hg0, hg1⟩
  · have := congrArg List.length h0; rw [dsL_length, List.length_nil] at this; omega
  · rw [dsL_length] at hc b
    refine ⟨g, cap, (cell_same (hs gu hgu.1 hgu.2)).trans hc, fun x hx => ?_⟩
    rw [cell_same (hs g hg0 hg1)]
    have b' := b
    unfold Own at b'
    rw [dsL_length] at b'
    exact (World.ownsRow.cellAt b' x (by omega)).trans (map_at _ x (by rw [dsL_length]; exact hx))

def swapS (S : List (Nat × Nat)) : List (Nat × Nat) := S.map fun p => (p.2, p.1)
theorem adjS_swap (S : List (Nat × Nat)) : adjS (swapS S) = adjS S := by
  funext v w
  rw [Bool.eq_iff_iff, adjS_iff, adjS_iff]
  constructor
  · rintro ⟨p, hp, h1, h2⟩
    obtain ⟨r, hr, rfl⟩ := List.mem_map.1 hp
    exact ⟨r, hr, by simp only at h1; omega, by simp only at h2; omega⟩
  · rintro ⟨p, hp, h1, h2⟩
    exact ⟨(p.2, p.1), List.mem_map.2 ⟨p, hp, rfl⟩, by simp only; omega, by simp only; omega⟩
theorem swapS_snoc (S : List (Nat × Nat)) (a b : Nat) : swapS (S ++ [(a, b)]) = swapS S ++ [(b, a)] := by simp [swapS]

/-- The model looks at the pairs the other way round. -/
def gbF (zs : List Int) (i : Int) (w v : Nat) : Bool := decide (el (dsL zs v) w = i)
theorem inS_congr {f g : Nat → Nat → Bool} {x : Nat} : ∀ k, (∀ v, v < k → f v x = g v x) → inS f x k = inS g x k
  | 0, _ => rfl
  | k + 1, h => by rw [inS, inS, h k (by omega), inS_congr k fun v hv => h v (by omega)]
theorem whereS_congr {f g : Nat → Nat → Bool} : ∀ n, (∀ v x, v < x → x < n → f v x = g v x) → whereS f n = whereS g n
  | 0, _ => rfl
  | n + 1, h => by rw [whereS, whereS, whereS_congr n fun v x h1 h2 => h v x h1 (by omega), inS_congr n fun v hv => h v n hv (by omega)]
theorem gb_ga {n : Int} {zs : List Int} (hg : isG n zs = true) (i : Int) : whereS (gbF zs i) zs.length = whereS (gaF zs i) zs.length :=
  whereS_congr _ fun v x h1 h2 => by
    unfold gbF gaF
    rw [dsL_at (by omega), dsL_at h2, dist_symm hg h2 (by omega)]

/-- What stands behind the model's first line: the rows of distances, and a graph without edges in a box. -/
def R6 (Wz : World) (zs : List Int) (s t : Value) (wx : World) : Prop := ∃ gu cu gE hB B S : Nat, s = .slice (some ⟨gu, 0, none⟩) zs.length cu ∧ t = .pointer (some ⟨hB, 0, none⟩) ∧ Hid (∀ W', (∀ k, B ≤ k → k < S → W'.heap[k]? = wx.heap[k]?) → RdD W' gu zs) ∧ Hid (wx.heap[hB]? = some (.cells #[.int .i64 zs.length, .slice (some ⟨gE, 0, none⟩) zs.length zs.length] 26 (0, 0))) ∧ Hid (Blk wx gE (List.replicate zs.length 0)) ∧ Below Wz.heap.size Wz wx ∧ Wz.heap.size ≤ gE ∧ Wz.heap.size ≤ hB ∧ gE ≠ hB ∧ S ≤ gE ∧ (hB < B ∨ S ≤ hB)
abbrev G06 : Obj := .cells #[.int .i64 0, .slice none 0 0] 26
theorem R6.mk {Wz w2 wx : World} {zs : List Int} {u : Value} {gE hB B : Nat} (h0 : 0 < zs.length) (hTS : TS w2 B u (dsLL zs zs.length)) (hk : ∀ k, B ≤ k → k < w2.heap.size → wx.heap[k]? = w2.heap[k]?)
    (hbox : wx.heap[hB]? = some (.cells #[.int .i64 zs.length, .slice (some ⟨gE, 0, none⟩) zs.length zs.length] 26 (0, 0))) (hblk : Blk wx gE (List.replicate zs.length 0)) (hbel : Below Wz.heap.size Wz wx) (h1 : Wz.heap.size ≤ gE) (h2 : Wz.heap.size ≤ hB) (h3 : gE ≠ hB) (h4 : w2.heap.size ≤ gE) (h5 : hB < B ∨ w2.heap.size ≤ hB) :
    R6 Wz zs u (.pointer (some ⟨hB, 0, none⟩)) wx := by
  rcases hTS.form with ⟨_, e⟩ | ⟨gu, cu, e, _, _⟩
  · have := congrArg List.length e; rw [dsLL_length, List.length_nil] at this; omega
  · rw [dsLL_length] at e
    subst e
    exact ⟨gu, cu, gE, hB, B, w2.heap.size, rfl, rfl, fun W' hW => hTS.rdD fun k hb hs => (hW k hb hs).trans (hk k hb hs), hbox, hblk, hbel, h1, h2, h3, h4, h5⟩
theorem R6.last {Wz w2 w3 : World} {zs : List Int} {u : Value} (h0 : 0 < zs.length) (hTS : TS w2 Wz.drew.heap.size u (dsLL zs zs.length)) (hb2 : Below Wz.drew.heap.size Wz.drew w2) (hB3 : Blk w3 (w2.heap.size + 1) (List.replicate zs.length 0)) (hb3 : Below w2.heap.size w2 w3) :
    R6 Wz zs u (.pointer (some ⟨w3.heap.size, 0, none⟩)) (w3.alloc (.cells #[.int .i64 zs.length, .slice (some ⟨w2.heap.size + 1, 0, none⟩) zs.length zs.length] 26)) := by
  have s2 : Wz.heap.size ≤ w2.heap.size := hb2.size
  have s3 := hb3.size
  have l3 := hB3.lt
  have E2 : Below Wz.heap.size Wz w2 := ((Below.refl _ _).drew).trans hb2
  have hal := (Below.refl w3.heap.size w3).alloc (Nat.le_refl _) (.cells #[.int .i64 zs.length, .slice (some ⟨w2.heap.size + 1, 0, none⟩) zs.length zs.length] 26)
  exact R6.mk h0 hTS (fun k _ hk => (hal.block k (by omega)).trans (hb3.block k hk)) (World.alloc_heap_new w3 _) (hB3.belowAll hal) ((E2.trans (hb3.mono s2)).alloc (by omega) _) (by omega) (by omega) (by omega) (by omega) (.inr (by omega))
theorem R6.mid {Wz w2 w3 : World} {zs : List Int} {u : Value} (h0 : 0 < zs.length) (hTS : TS w2 Wz.drew.heap.size u (dsLL zs zs.length)) (hb2 : Below Wz.drew.heap.size Wz.drew w2) (hB3 : Blk w3 ((w2.alloc G06).heap.size + 1) (List.replicate zs.length 0)) (hb3 : Below (w2.alloc G06).heap.size (w2.alloc G06) w3) :
    R6 Wz zs u (.pointer (some ⟨w2.heap.size, 0, none⟩)) ((w3.setCell ⟨w2.heap.size, 0, none⟩ (.int .i64 zs.length)).setCell ⟨w2.heap.size, 1, none⟩ (.slice (some ⟨w2.heap.size + 1 + 1, 0, none⟩) zs.length zs.length)) := by
  have s2 : Wz.heap.size ≤ w2.heap.size := hb2.size
  have l3 := hB3.lt
  rw [World.size_alloc] at hB3 hb3 l3
  have E2 : Below Wz.heap.size Wz w2 := ((Below.refl _ _).drew).trans hb2
  have hal := (Below.refl w2.heap.size w2).alloc (Nat.le_refl _) G06
  have hbx : w3.heap[w2.heap.size]? = some G06 := (hb3.block _ (Nat.lt_succ_self _)).trans (World.alloc_heap_new w2 _)
  have b3 : Below w2.heap.size w2 w3 := hal.trans (hb3.mono (by omega))
  have b4 : Below w2.heap.size w3 ((w3.setCell ⟨w2.heap.size, 0, none⟩ (.int .i64 zs.length)).setCell ⟨w2.heap.size, 1, none⟩ (.slice (some ⟨w2.heap.size + 1 + 1, 0, none⟩) zs.length zs.length)) := ((Below.refl _ _).setCell (p := ⟨w2.heap.size, 0, none⟩) (by simp) _).setCell (p := ⟨w2.heap.size, 1, none⟩) (by simp) _
  exact R6.mk h0 hTS (fun k _ hk => (b4.block k hk).trans (b3.block k hk)) (two_set hbx) ((hB3.other (by simp; omega) _).other (by simp; omega) _) (E2.trans ((b3.trans b4).mono s2)) (by omega) (by omega) (by omega) (by omega) (.inr (by omega))
theorem R6.first {Wz w2 w3 : World} {zs : List Int} {u : Value} (h0 : 0 < zs.length) (hTS : TS w2 (Wz.drew.alloc G06).heap.size u (dsLL zs zs.length)) (hb2 : Below (Wz.drew.alloc G06).heap.size (Wz.drew.alloc G06) w2) (hB3 : Blk w3 (w2.heap.size + 1) (List.replicate zs.length 0)) (hb3 : Below w2.heap.size w2 w3) :
    R6 Wz zs u (.pointer (some ⟨Wz.heap.size, 0, none⟩)) ((w3.setCell ⟨Wz.heap.size, 0, none⟩ (.int .i64 zs.length)).setCell ⟨Wz.heap.size, 1, none⟩ (.slice (some ⟨w2.heap.size + 1, 0, none⟩) zs.length zs.length)) := by
  have l3 := hB3.lt
  rw [World.size_alloc] at hTS hb2
  have s2 : Wz.heap.size + 1 ≤ w2.heap.size := by have := hb2.size; rw [World.size_alloc] at this; exact this
  have E1 : Below Wz.heap.size Wz (Wz.drew.alloc G06) := ((Below.refl _ _).drew).alloc (Nat.le_refl _) _
  have E2 : Below Wz.heap.size Wz w2 := E1.trans (hb2.mono (Nat.le_succ _))
  have hbx : w3.heap[Wz.heap.size]? = some G06 := (hb3.block _ (by omega)).trans ((hb2.block _ (Nat.lt_succ_self _)).trans (heap_new_at Wz.drew _ _ rfl))
  have b4 : Below Wz.heap.size w3 ((w3.setCell ⟨Wz.heap.size, 0, none⟩ (.int .i64 zs.length)).setCell ⟨Wz.heap.size, 1, none⟩ (.slice (some ⟨w2.heap.size + 1, 0, none⟩) zs.length zs.length)) := ((Below.refl _ _).setCell (p := ⟨Wz.heap.size, 0, none⟩) (by simp) _).setCell (p := ⟨Wz.heap.size, 1, none⟩) (by simp) _
  refine R6.mk (B := Wz.heap.size + 1) h0 hTS (fun k hk1 hk => ?_) (two_set hbx) ((hB3.other (by simp; omega) _).other (by simp; omega) _) ((E2.trans (hb3.mono (by omega))).trans b4) (by omega) (by omega) (by omega) (by omega) (.inl (by omega))
  refine Eq.trans ?_ (hb3.block k hk)
  exact (Below.heap_setCell _ _ _ _ (by simp; omega)).trans (Below.heap_setCell _ _ _ _ (by simp; omega))

end Go.Proofs.YthlchifmmmnagaaDoor
