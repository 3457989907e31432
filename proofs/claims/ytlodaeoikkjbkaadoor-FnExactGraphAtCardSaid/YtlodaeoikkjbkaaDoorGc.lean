/-
  spec.l06At.
-/
import Derived.Test.YtlodaeoikkjbkaaDoorTt
import Derived.Test.YtlodaeoikkjbkaaDoorGa
import Derived.Deep.DeepCutAuto
import Derived.Deep.RegionWith
namespace Go.Proofs.YtlodaeoikkjbkaaDoor
set_option maxRecDepth 100000
set_option maxRecDepth 100000
open Go.RowKit

/-- In W the slice u reads as the rows of distances. -/
def RdD (W : World) (gu : Nat) (zs : List Int) : Prop := ∀ v, v < zs.length → ∃ p c, W.cell? ⟨gu, v, none⟩ = some (.slice (some ⟨p, 0, none⟩) zs.length c) ∧ ∀ x, x < zs.length → W.cell? ⟨p, x, none⟩ = some (.int .i64 (el (dsL zs v) x))
theorem cell_same {W W' : World} {k i : Nat} (h : W'.heap[k]? = W.heap[k]?) : W'.cell? ⟨k, i, none⟩ = W.cell? ⟨k, i, none⟩ := by
  unfold World.cell?
  simp only [h]
/-- The rows made by a call are read wherever the blocks that the call made are as they were. -/
theorem TS.rdD {W2 W' : World} {B gu cu : Nat} {zs : List Int} (h : TS W2 B (.slice (some ⟨gu, 0, none⟩) zs.length cu) (dsLL zs zs.length)) (hs : ∀ k, B ≤ k → k < W2.heap.size → W'.heap[k]? = W2.heap[k]?) : RdD W' gu zs := by
  intro v hv
  obtain ⟨cs, h1, h2, h3⟩ := h
  rw [dsLL_length] at h1 h2 h3
  have hgu := World.ownsRow.lt h1 gu rfl
  obtain ⟨u, a, b, _, _⟩ := h3 v hv
  rw [dsLL_at hv] at b
  have hc := (World.ownsRow.cellAt h1 v (by omega)).trans a
  rcases b.form with ⟨_, h0⟩ | ⟨g, cap, rfl, hg0, hg1⟩
  · have := congrArg List.length h0; rw [dsL_length, List.length_nil] at this; omega
  · rw [dsL_length] at hc b
    refine ⟨g, cap, (cell_same (hs gu hgu.1 hgu.2)).trans hc, fun x hx => ?_⟩
    rw [cell_same (hs g hg0 hg1)]
    have b' := b
    unfold Own at b'
    rw [dsL_length] at b'
    exact (World.ownsRow.cellAt b' x (by omega)).trans (map_at _ x (by rw [dsL_length]; exact hx))

def swapS (S : List (Nat × Nat)) : List (Nat × Nat) := S.map fun p => (p.2, p.1)
theorem adjS_swap (S : List (Nat × Nat)) : adjS (swapS S) = adjS S := by
  funext v w
  rw [Bool.eq_iff_iff, adjS_iff, adjS_iff]
  constructor
  · rintro ⟨p, hp, h1, h2⟩
    obtain ⟨r, hr, rfl⟩ := List.mem_map.1 hp
    exact ⟨r, hr, by simp only at h1; omega, by simp only at h2; omega⟩
  · rintro ⟨p, hp, h1, h2⟩
    exact ⟨(p.2, p.1), List.mem_map.2 ⟨p, hp, rfl⟩, by simp only; omega, by simp only; omega⟩
theorem swapS_snoc (S : List (Nat × Nat)) (a b : Nat) : swapS (S ++ [(a, b)]) = swapS S ++ [(b, a)] := by simp [swapS]

/-- The model looks at the pairs the other way round. -/
def gbF (zs : List Int) (i : Int) (w v : Nat) : Bool := decide (el (dsL zs v) w = i)
theorem inS_congr {f g : Nat → Nat → Bool} {x : Nat} : ∀ k, (∀ v, v < k → f v x = g v x) → inS f x k = inS g x k
  | 0, _ => rfl
  | k + 1, h => by rw [inS, inS, h k (by omega), inS_congr k fun v hv => h v (by omega)]
theorem whereS_congr {f g : Nat → Nat → Bool} : ∀ n, (∀ v x, v < x → x < n → f v x = g v x) → whereS f n = whereS g n
  | 0, _ => rfl
  | n + 1, h => by rw [whereS, whereS, whereS_congr n fun v x h1 h2 => h v x h1 (by omega), inS_congr n fun v hv => h v n hv (by omega)]
theorem gb_ga {n : Int} {zs : List Int} (hg : isG n zs = true) (i : Int) : whereS (gbF zs i) zs.length = whereS (gaF zs i) zs.length :=
  whereS_congr _ fun v x h1 h2 => by
    unfold gbF gaF
    rw [dsL_at (by omega), dsL_at h2, dist_symm hg h2 (by omega)]

/-- What stands behind the model's first line: the rows of distances, and a graph without edges in a box. -/
def R6 (Wz : World) (zs : List Int) (s t : Value) (wx : World) : Prop := ∃ gu cu gE hB B S : Nat, s = .slice (some ⟨gu, 0, none⟩) zs.length cu ∧ t = .pointer (some ⟨hB, 0, none⟩) ∧ Hid (∀ W', (∀ k, B ≤ k → k < S → W'.heap[k]? = wx.heap[k]?) → RdD W' gu zs) ∧ Hid (wx.heap[hB]? = some (.cells #[.int .i64 zs.length, .slice (some ⟨gE, 0, none⟩) zs.length zs.length] 28 (0, 0))) ∧ Hid (Blk wx gE (List.replicate zs.length 0)) ∧ Below Wz.heap.size Wz wx ∧ Wz.heap.size ≤ gE ∧ Wz.heap.size ≤ hB ∧ gE ≠ hB ∧ S ≤ gE ∧ (hB < B ∨ S ≤ hB)
abbrev G06 : Obj := .cells #[.int .i64 0, .slice none 0 0] 28
theorem R6.mk {Wz w2 wx : World} {zs : List Int} {u : Value} {gE hB B : Nat} (h0 : 0 < zs.length) (hTS : TS w2 B u (dsLL zs zs.length)) (hk : ∀ k, B ≤ k → k < w2.heap.size → wx.heap[k]? = w2.heap[k]?)
    (hbox : wx.heap[hB]? = some (.cells #[.int .i64 zs.length, .slice (some ⟨gE, 0, none⟩) zs.length zs.length] 28 (0, 0))) (hblk : Blk wx gE (List.replicate zs.length 0)) (hbel : Below Wz.heap.size Wz wx) (h1 : Wz.heap.size ≤ gE) (h2 : Wz.heap.size ≤ hB) (h3 : gE ≠ hB) (h4 : w2.heap.size ≤ gE) (h5 : hB < B ∨ w2.heap.size ≤ hB) :
    R6 Wz zs u (.pointer (some ⟨hB, 0, none⟩)) wx := by
  rcases hTS.form with ⟨_, e⟩ | ⟨gu, cu, e, _, _⟩
  · have := congrArg List.length e; rw [dsLL_length, List.length_nil] at this; omega
  · rw [dsLL_length] at e
    subst e
    exact ⟨gu, cu, gE, hB, B, w2.heap.size, rfl, rfl, fun W' hW => hTS.rdD fun k hb hs => (hW k hb hs).trans (hk k hb hs), hbox, hblk, hbel, h1, h2, h3, h4, h5⟩
theorem R6.last {Wz w2 w3 : World} {zs : List Int} {u : Value} (h0 : 0 < zs.length) (hTS : TS w2 Wz.drew.heap.size u (dsLL zs zs.length)) (hb2 : Below Wz.drew.heap.size Wz.drew w2) (hB3 : Blk w3 (w2.heap.size + 1) (List.replicate zs.length 0)) (hb3 : Below w2.heap.size w2 w3) :
    R6 Wz zs u (.pointer (some ⟨w3.heap.size, 0, none⟩)) (w3.alloc (.cells #[.int .i64 zs.length, .slice (some ⟨w2.heap.size + 1, 0, none⟩) zs.length zs.length] 28)) := by
  have s2 : Wz.heap.size ≤ w2.heap.size := hb2.size
  have s3 := hb3.size
  have l3 := hB3.lt
  have E2 : Below Wz.heap.size Wz w2 := ((Below.refl _ _).drew).trans hb2
  have hal := (Below.refl w3.heap.size w3).alloc (Nat.le_refl _) (.cells #[.int .i64 zs.length, .slice (some ⟨w2.heap.size + 1, 0, none⟩) zs.length zs.length] 28)
  exact R6.mk h0 hTS (fun k _ hk => (hal.block k (by omega)).trans (hb3.block k hk)) (World.alloc_heap_new w3 _) (hB3.belowAll hal) ((E2.trans (hb3.mono s2)).alloc (by omega) _) (by omega) (by omega) (by omega) (by omega) (.inr (by omega))
theorem R6.mid {Wz w2 w3 : World} {zs : List Int} {u : Value} (h0 : 0 < zs.length) (hTS : TS w2 Wz.drew.heap.size u (dsLL zs zs.length)) (hb2 : Below Wz.drew.heap.size Wz.drew w2) (hB3 : Blk w3 ((w2.alloc G06).heap.size + 1) (List.replicate zs.length 0)) (hb3 : Below (w2.alloc G06).heap.size (w2.alloc G06) w3) :
    R6 Wz zs u (.pointer (some ⟨w2.heap.size, 0, none⟩)) ((w3.setCell ⟨w2.heap.size, 0, none⟩ (.int .i64 zs.length)).setCell ⟨w2.heap.size, 1, none⟩ (.slice (some ⟨w2.heap.size + 1 + 1, 0, none⟩) zs.length zs.length)) := by
  have s2 : Wz.heap.size ≤ w2.heap.size := hb2.size
  have l3 := hB3.lt
  rw [World.size_alloc] at hB3 hb3 l3
  have E2 : Below Wz.heap.size Wz w2 := ((Below.refl _ _).drew).trans hb2
  have hal := (Below.refl w2.heap.size w2).alloc (Nat.le_refl _) G06
  have hbx : w3.heap[w2.heap.size]? = some G06 := (hb3.block _ (Nat.lt_succ_self _)).trans (World.alloc_heap_new w2 _)
  have b3 : Below w2.heap.size w2 w3 := hal.trans (hb3.mono (by omega))
  have b4 : Below w2.heap.size w3 ((w3.setCell ⟨w2.heap.size, 0, none⟩ (.int .i64 zs.length)).setCell ⟨w2.heap.size, 1, none⟩ (.slice (some ⟨w2.heap.size + 1 + 1, 0, none⟩) zs.length zs.length)) := ((Below.refl _ _).setCell (p := ⟨w2.heap.size, 0, none⟩) (by simp) _).setCell (p := ⟨w2.heap.size, 1, none⟩) (by simp) _
  exact R6.mk h0 hTS (fun k _ hk => (b4.block k hk).trans (b3.block k hk)) (two_set hbx) ((hB3.other (by simp; omega) _).other (by simp; omega) _) (E2.trans ((b3.trans b4).mono s2)) (by omega) (by omega) (by omega) (by omega) (.inr (by omega))
theorem R6.first {Wz w2 w3 : World} {zs : List Int} {u : Value} (h0 : 0 < zs.length) (hTS : TS w2 (Wz.drew.alloc G06).heap.size u (dsLL zs zs.length)) (hb2 : Below (Wz.drew.alloc G06).heap.size (Wz.drew.alloc G06) w2) (hB3 : Blk w3 (w2.heap.size + 1) (List.replicate zs.length 0)) (hb3 : Below w2.heap.size w2 w3) :
    R6 Wz zs u (.pointer (some ⟨Wz.heap.size, 0, none⟩)) ((w3.setCell ⟨Wz.heap.size, 0, none⟩ (.int .i64 zs.length)).setCell ⟨Wz.heap.size, 1, none⟩ (.slice (some ⟨w2.heap.size + 1, 0, none⟩) zs.length zs.length)) := by
  have l3 := hB3.lt
  rw [World.size_alloc] at hTS hb2
  have s2 : Wz.heap.size + 1 ≤ w2.heap.size := by have := hb2.size; rw [World.size_alloc] at this; exact this
  have E1 : Below Wz.heap.size Wz (Wz.drew.alloc G06) := ((Below.refl _ _).drew).alloc (Nat.le_refl _) _
  have E2 : Below Wz.heap.size Wz w2 := E1.trans (hb2.mono (Nat.le_succ _))
  have hbx : w3.heap[Wz.heap.size]? = some G06 := (hb3.block _ (by omega)).trans ((hb2.block _ (Nat.lt_succ_self _)).trans (heap_new_at Wz.drew _ _ rfl))
  have b4 : Below Wz.heap.size w3 ((w3.setCell ⟨Wz.heap.size, 0, none⟩ (.int .i64 zs.length)).setCell ⟨Wz.heap.size, 1, none⟩ (.slice (some ⟨w2.heap.size + 1, 0, none⟩) zs.length zs.length)) := ((Below.refl _ _).setCell (p := ⟨Wz.heap.size, 0, none⟩) (by simp) _).setCell (p := ⟨Wz.heap.size, 1, none⟩) (by simp) _
  refine R6.mk (B := Wz.heap.size + 1) h0 hTS (fun k hk1 hk => ?_) (two_set hbx) ((hB3.other (by simp; omega) _).other (by simp; omega) _) ((E2.trans (hb3.mono (by omega))).trans b4) (by omega) (by omega) (by omega) (by omega) (.inl (by omega))
  refine Eq.trans ?_ (hb3.block k hk)
  exact (Below.heap_setCell _ _ _ _ (by simp; omega)).trans (Below.heap_setCell _ _ _ _ (by simp; omega))

set_option maxHeartbeats 4000000 in
theorem specAt_some (b off cap : Nat) (zs : List Int) (i : Int) (w : World) (hb : b < w.heap.size) (hc : Cells w b off zs) (hg : isG zs.length zs = true) :
    Calls Tryd.prog 45 #[.agg #[.int .i64 zs.length, .slice (some ⟨b, off, none⟩) zs.length cap], .int .i64 i] w fun e w' => GRet w.heap.size zs.length (gaR zs i) e w' ∧ Below w.heap.size w w' := by
  obtain ⟨g1, g2, -, -, -⟩ := isG_parts hg
  have hl : zs.length ≤ 62 := by omega
  obtain ⟨Wz, hWz⟩ : ∃ Wz, Wz = (w.alloc (.cells #[.int .i64 zs.length, .slice (some ⟨b, off, none⟩) zs.length cap] 28)).alloc (.cells #[.int .i64 0, .slice none 0 0] 28) := ⟨_, rfl⟩
  have hsz : w.heap.size + 2 ≤ Wz.heap.size := by rw [hWz]; simp
  have D0 : Below w.heap.size w Wz := by rw [hWz]; exact ((Below.refl _ _).alloc (Nat.le_refl _) _).alloc (by simp) _
  have HG0 : Hid (Wz.heap[w.heap.size]? = some (.cells #[.int .i64 zs.length, .slice (some ⟨b, off, none⟩) zs.length cap] 28 (0, 0))) := by show _ = _; rw [hWz]; exact heap_old_at (World.alloc_heap_new w _) _
  have HR0 : Hid (Wz.heap[w.heap.size + 1]? = some (.cells #[.int .i64 0, .slice none 0 0] 28 (0, 0))) := by show _ = _; rw [hWz]; exact heap_new_at _ _ _ (by simp)
  have HRS : Hid (∀ W, Below Wz.heap.size Wz W → Calls Tryd.prog 55 #[.agg #[.int .i64 zs.length, .slice (some ⟨b, off, none⟩) zs.length cap]] W fun e w' => (∃ u, e = .returned u ∧ TS w' W.heap.size u (dsLL zs zs.length)) ∧ Below W.heap.size W w') := fun W h =>
    rows6_some b off cap zs W (Nat.lt_of_lt_of_le (show b < Wz.heap.size by omega) h.size) ((hc.below D0 hb).below h (by omega)) hg
  have HEM := Lib.hid (fun W => specEmpty_any zs.length W (by omega))
  have HWS := Lib.hid (gb_ga hg i)
  have HD0 := Lib.hid D0
  obtain ⟨a0, a1, -, -⟩ := two_cells HG0.out
  clear hc hg D0
  go_enter Tryd.func45, Tryd.ntmps45
  go_upto_region 1 with fail
  rw [← hWz]
  clear hWz
  have hz0 : 0 < zs.length := by omega
  go_cut [5, 6] (fun s t wx => R6 Wz zs s t wx)
  case first =>
    have p1 : w.heap.size < Wz.heap.size := by omega
    have p2 : ¬ w.heap.size = Wz.heap.size := by omega
    have p3 : ¬ Wz.heap.size = w.heap.size := by omega
    go_region_with (first
      | (go_at_call 55; refine (HRS.out _ (by first | exact (Below.refl _ _).drew | exact ((Below.refl _ _).drew).alloc (by simp) _)).mono ?_; rintro e w2 ⟨⟨u, rfl, hTS⟩, hb2⟩; obtain ⟨c0, c1, -, -⟩ := two_cells ((hb2.block w.heap.size (by simp; omega)).trans (by first | exact HG0.out | exact heap_old_at HG0.out _)); have qz : Wz.heap.size ≤ w2.heap.size := (by have h9 := hb2.size; first | exact h9 | (simp at h9; omega)); have ql : w.heap.size < w2.heap.size := (by omega); have qn : ¬ w.heap.size = w2.heap.size := (by omega); have qm : ¬ w2.heap.size = w.heap.size := (by omega))
      | (go_at_call 47; refine (HEM.out _).mono ?_; rintro e w3 ⟨rfl, hB3, hb3⟩; (try (have qq : w3.heap[w2.heap.size]? = some (.cells #[.int .i64 0, .slice none 0 0] 28 (0, 0)) := (hb3.block w2.heap.size (show w2.heap.size < (w2.alloc (.cells #[.int .i64 0, .slice none 0 0] 28)).heap.size by simp)).trans (World.alloc_heap_new w2 _); obtain ⟨q0, q1, q2, q3⟩ := two_cells qq)); (try (have qs : (Wz.drew.alloc (.cells #[.int .i64 0, .slice none 0 0] 28)).heap.size ≤ w2.heap.size := hb2.size; have qq : w3.heap[Wz.heap.size]? = some (.cells #[.int .i64 0, .slice none 0 0] 28 (0, 0)) := (hb3.block Wz.heap.size (Nat.lt_of_lt_of_le (show Wz.heap.size < (Wz.drew.alloc (.cells #[.int .i64 0, .slice none 0 0] 28)).heap.size by simp) qs)).trans ((hb2.block Wz.heap.size (show Wz.heap.size < (Wz.drew.alloc (.cells #[.int .i64 0, .slice none 0 0] 28)).heap.size by simp)).trans (heap_new_at Wz.drew (.cells #[.int .i64 0, .slice none 0 0] 28) Wz.heap.size rfl)); obtain ⟨q0, q1, q2, q3⟩ := two_cells qq))))
    all_goals
      go_wp2_with fail
      go_meet
      first
        | exact R6.last hz0 hTS hb2 hB3 hb3
        | exact R6.mid hz0 hTS hb2 hB3 hb3
        | exact R6.first hz0 hTS hb2 hB3 hb3
  case rest =>
  obtain ⟨gu, cu, gE, hB, B, S, rfl, rfl, HRD, HX, HB, hE0, k1, k2, k3, k4, k5⟩ := hcut
  have HB3 : Hid (Blk wc gE (rowsF zs.length (adjS (swapS (whereS (gbF zs i) 0))))) := by show Blk _ _ _; rw [show adjS (swapS (whereS (gbF zs i) 0)) = fun _ _ => false from rfl, rowsF_none]; exact HB.out
  have HGW : Hid (hB ≠ gE) := k3.symm
  clear a0 a1 HB HRS HEM
  go_wp2_with fail
  go_loopw [7, 8] (fun t _ wr => ∃ v : Nat, v ≤ zs.length ∧ t = .int .i64 v ∧ Hid (Blk wr gE (rowsF zs.length (adjS (swapS (whereS (gbF zs i) v))))) ∧ Hid (wr.heap[hB]? = some (.cells #[.int .i64 zs.length, .slice (some ⟨gE, 0, none⟩) zs.length zs.length] 28 (0, 0))) ∧ Below Wz.heap.size Wz wr ∧ Hid (∀ k, B ≤ k → k < S → wr.heap[k]? = wc.heap[k]?)) (fun t _ _ => zs.length - (intOf t).toNat)
  case atStart => exact ⟨0, Nat.zero_le _, rfl, HB3, HX, hE0, fun _ _ _ => rfl⟩
  case round =>
    clear HB3 HX hE0
    obtain ⟨v, hv, rfl, HB, HX, hE, HK⟩ := hrel
    obtain ⟨b0, b1, -, -⟩ := two_cells ((hE.block w.heap.size (by omega)).trans HG0.out)
    by_cases hlt : v < zs.length
    · have hlti : (v : Int) < zs.length := by omega
      go_wp2_with fail
      obtain ⟨wo, rfl⟩ : ∃ wo : World, wo = wr := ⟨_, rfl⟩
      have HBI : Hid (Blk wo gE (rowsF zs.length (adjS (swapS (whereS (gbF zs i) v ++ inS (gbF zs i) v 0))))) := by show Blk _ _ _; rw [show whereS (gbF zs i) v ++ inS (gbF zs i) v 0 = whereS (gbF zs i) v by simp [inS]]; exact HB.out
      clear b0 b1
      go_loopw [8] (fun t wr => ∃ k : Nat, k ≤ v ∧ t = .int .i64 k ∧ Hid (Blk wr gE (rowsF zs.length (adjS (swapS (whereS (gbF zs i) v ++ inS (gbF zs i) v k))))) ∧ Hid (wr.heap[hB]? = some (.cells #[.int .i64 zs.length, .slice (some ⟨gE, 0, none⟩) zs.length zs.length] 28 (0, 0))) ∧ Below Wz.heap.size Wz wr ∧ Hid (∀ k, B ≤ k → k < S → wr.heap[k]? = wc.heap[k]?)) (fun t _ => v - (intOf t).toNat)
      case atStart => exact ⟨0, Nat.zero_le _, rfl, HBI, HX, hE, HK⟩
      case round =>
        clear HBI HX hE HK HB
        obtain ⟨k, hk, rfl, HC, HY, hF, HK⟩ := hrel
        by_cases hlk : k < v
        · have hlki : (k : Int) < v := by omega
          obtain ⟨p, c, c1, c2⟩ := HRD.out wr HK.out v hlt
          have c3 := c2 k (by omega)
          have hv0 : (0 : Int) ≤ v := by omega
          have hk0 : (0 : Int) ≤ k := by omega
          have hki : (k : Int) < zs.length := by omega
          have hf : gbF zs i k v = decide (el (dsL zs v) k = i) := rfl
          obtain ⟨x0, x1, y0, y1⟩ := two_cells HY.out
          clear c2
          cases hr : gbF zs i k v with
          | true =>
            have HN : Hid (swapS (whereS (gbF zs i) v ++ inS (gbF zs i) v (k + 1)) = swapS (whereS (gbF zs i) v ++ inS (gbF zs i) v k) ++ [(v, k)]) := by show _ = _; rw [inS_yes hr, ← List.append_assoc, swapS_snoc]
            have HJ := Lib.hid (with_at zs.length gE zs.length (swapS (whereS (gbF zs i) v ++ inS (gbF zs i) v k)) v k (v : Int) (k : Int) wr HC.out hlt (by omega) hl rfl rfl)
            rw [hr] at hf
            generalize el (dsL zs v) k = d at *
            have hd : (d == i) = true := hf.symm
            clear hr hf
            go_wp2_with fail
            refine HJ.out.mono ?_
            rintro e w5 ⟨rfl, hB5, hg5⟩
            have HX5 := Lib.hid ((hg5.block hB (Array.getElem?_eq_some_iff.1 HY.out).1 (fun e => HGW.out (Option.some.inj e))).trans HY.out)
            have HB5 : Hid (Blk w5 gE (rowsF zs.length (adjS (swapS (whereS (gbF zs i) v ++ inS (gbF zs i) v (k + 1)))))) := by show Blk _ _ _; rw [HN.out]; exact hB5
            have hE5 : Below Wz.heap.size Wz w5 := hF.grown hg5 hF.size (fun j e => by have := Option.some.inj e; omega)
            have hS5 : S ≤ wr.heap.size := by have := HC.out.lt; omega
            have HK5 : Hid (∀ k, B ≤ k → k < S → w5.heap[k]? = wc.heap[k]?) := by
              intro j h1 h2
              exact (hg5.block j (by omega) (fun e => by have := Option.some.inj e; omega)).trans (HK.out j h1 h2)
            clear hS5
            obtain ⟨z0, z1, z2, z3⟩ := two_cells HX5.out
            clear x0 x1 y0 y1 c1 c3 hB5 hg5 HC HY hF HK HJ
            go_wp2_with fail
            obtain ⟨w6, h6⟩ : ∃ x, x = (w5.setCell ⟨hB, 0, none⟩ (.int .i64 zs.length)).setCell ⟨hB, 1, none⟩ (.slice (some ⟨gE, 0, none⟩) zs.length zs.length) := ⟨_, rfl⟩
            have HX6 : Hid (w6.heap[hB]? = some (.cells #[.int .i64 zs.length, .slice (some ⟨gE, 0, none⟩) zs.length zs.length] 28 (0, 0))) := by show _ = _; rw [h6]; exact two_set HX5.out
            have HB6 : Hid (Blk w6 gE (rowsF zs.length (adjS (swapS (whereS (gbF zs i) v ++ inS (gbF zs i) v (k + 1)))))) := by show Blk _ _ _; rw [h6]; exact (HB5.out.other (by simp; exact HGW.out.symm) _).other (by simp; exact HGW.out.symm) _
            have hE6 : Below Wz.heap.size Wz w6 := by rw [h6]; exact (hE5.setCell (p := ⟨hB, 0, none⟩) (by simp; omega) _).setCell (p := ⟨hB, 1, none⟩) (by simp; omega) _
            have HK6 : Hid (∀ k, B ≤ k → k < S → w6.heap[k]? = wc.heap[k]?) := by
              intro j h1 h2
              rw [h6]
              exact (Below.heap_setCell _ _ _ _ (by simp; omega)).trans ((Below.heap_setCell _ _ _ _ (by simp; omega)).trans (HK5.out j h1 h2))
            rw [← h6]
            clear h6 HX5 HB5 hE5 HK5 z0 z1 z2 z3
            go_roundw
            case rel => exact ⟨k + 1, by omega, by go_num, HB6, HX6, hE6, HK6⟩
            case measure => simp [intOf]; omega
          | false =>
            have HN : Hid (swapS (whereS (gbF zs i) v ++ inS (gbF zs i) v (k + 1)) = swapS (whereS (gbF zs i) v ++ inS (gbF zs i) v k)) := by show _ = _; rw [inS_no hr]
            have HB6 : Hid (Blk wr gE (rowsF zs.length (adjS (swapS (whereS (gbF zs i) v ++ inS (gbF zs i) v (k + 1)))))) := by show Blk _ _ _; rw [HN.out]; exact HC.out
            rw [hr] at hf
            generalize el (dsL zs v) k = d at *
            have hd : (d == i) = false := hf.symm
            clear hr hf HC
            go_wp2_with fail
            go_roundw
            case rel => exact ⟨k + 1, by omega, by go_num, HB6, HY, hF, HK⟩
            case measure => simp [intOf]; omega
        · obtain rfl : k = v := by omega
          have HC1 : Hid (Blk wr gE (rowsF zs.length (adjS (swapS (whereS (gbF zs i) (k + 1)))))) := HC.out
          go_wp2_with fail
          go_roundw
          case rel => exact ⟨k + 1, by omega, by go_num, HC1, HY, hF, HK⟩
          case measure => simp [intOf]; omega
    · obtain rfl : v = zs.length := by omega
      have RB := Lib.hid ((hE.block (w.heap.size + 1) (by omega)).trans HR0.out)
      obtain ⟨r0, r1, q0, q1⟩ := two_cells RB.out
      obtain ⟨x0, x1, -, -⟩ := two_cells HX.out
      have HBF : Hid (Blk wr gE (gaR zs i)) := by
        show Blk _ _ _
        unfold gaR
        rw [← HWS.out, ← adjS_swap]
        exact HB.out
      have E1 := Lib.hid (HD0.out.trans (hE.mono (by omega)))
      clear HB hE
      go_wp2_with fail
      have hfin := two_set (a := .int .i64 zs.length) (b := .slice (some ⟨gE, 0, none⟩) zs.length zs.length) RB.out
      refine bodyPost_ret (v := .agg #[.int .i64 zs.length, .slice (some ⟨gE, 0, none⟩) zs.length zs.length]) (results_cell_row (p := 4) (ty := 28) rfl _ _ (w.heap.size + 1) 28 _ (0, 0) _ rfl hfin Tryd.underlying28 rfl (by exact info27)) rfl ⟨⟨_, rfl, ?_, by omega⟩, ?_⟩
      · exact (HBF.out.other (by simp; omega) _).other (by simp; omega) _
      · exact (E1.out.setCell (p := ⟨w.heap.size + 1, 0, none⟩) (by simp) _).setCell (p := ⟨w.heap.size + 1, 1, none⟩) (by simp) _
end Go.Proofs.YtlodaeoikkjbkaaDoor
