/-
  Ways counted step by step: plain facts, arrays of them, and impl.waysOneStepOn.
-/
import Derived.Test.YtlodaeoikkjbkaaDoorNa
import Derived.Test.YtlodaeoikkjbkaaDoorDn
import Derived.RangeFuncWrites
import Derived.Sort.CutIn
namespace Go.Proofs.YtlodaeoikkjbkaaDoor
set_option maxRecDepth 100000
set_option maxRecDepth 100000
open Go.RowKit Go.Shelf

attribute [local go_sem] Oper.semAt_some

/-- The sum of what the first x vertices send to y. -/
def acW (zs : List Int) (f : Nat → Int) : Nat → Nat → Int
  | 0, _ => 0
  | x + 1, y => if bt (el zs x) y then acW zs f x y + f x else acW zs f x y
/-- The numbers of ways of t steps from v. -/
def wyN (zs : List Int) (v : Nat) : Nat → Nat → Int
  | 0, y => if y = v then 1 else 0
  | t + 1, y => acW zs (wyN zs v t) zs.length y
theorem acW_bound (zs : List Int) (f : Nat → Int) (M : Int) (hM : 0 ≤ M) (hf : ∀ x, 0 ≤ f x ∧ f x ≤ M) : ∀ x y, 0 ≤ acW zs f x y ∧ acW zs f x y ≤ x * M
  | 0, y => ⟨Int.le_refl _, by simp [acW]⟩
  | x + 1, y => by
    have ih := acW_bound zs f M hM hf x y
    have h := hf x
    have e : ((x + 1 : Nat) : Int) * M = x * M + M := by push_cast; rw [Int.add_mul]; simp
    rw [acW, e]
    split <;> omega
theorem wyN_bound {zs : List Int} {v : Nat} (h62 : zs.length ≤ 62) : ∀ t y, 0 ≤ wyN zs v t y ∧ wyN zs v t y ≤ 62 ^ t
  | 0, y => by
    show 0 ≤ (if y = v then (1 : Int) else 0) ∧ (if y = v then (1 : Int) else 0) ≤ 62 ^ 0
    split <;> simp
  | t + 1, y => by
    have hp : (0 : Int) ≤ 62 ^ t := Int.pow_nonneg (by decide)
    have ih := acW_bound zs (wyN zs v t) (62 ^ t) hp (fun x => wyN_bound h62 t x) zs.length y
    have e : (62 : Int) ^ (t + 1) = 62 * 62 ^ t := by rw [Int.pow_succ, Int.mul_comm]
    have h2 : (zs.length : Int) * 62 ^ t ≤ 62 * 62 ^ t := Int.mul_le_mul_of_nonneg_right (by omega) hp
    exact ⟨ih.1, by rw [e]; exact Int.le_trans ih.2 h2⟩
theorem pow_le8 {t : Nat} (h : t ≤ 8) : (62 : Int) ^ t ≤ 218340105584896 := by
  have : t = 0 ∨ t = 1 ∨ t = 2 ∨ t = 3 ∨ t = 4 ∨ t = 5 ∨ t = 6 ∨ t = 7 ∨ t = 8 := by omega
  rcases this with rfl | rfl | rfl | rfl | rfl | rfl | rfl | rfl | rfl <;> decide
theorem count_one : ∀ {l : List Nat} {a : Nat}, l.Nodup → a ∈ l → l.count a = 1
  | [], _, _, h => by simp at h
  | b :: l, a, hd, hm => by
    rw [List.nodup_cons] at hd
    rw [List.count_cons]
    by_cases e : b = a
    · subst e; rw [List.count_eq_zero_of_not_mem hd.1]; simp
    · rcases List.mem_cons.1 hm with h | h
      · exact absurd h.symm e
      · rw [count_one hd.2 h]; simp [e]
/-- What stands at y while vertex x sends, those of pre done. -/
def amW (zs : List Int) (f : Nat → Int) (x : Nat) (pre : List Nat) (y : Nat) : Int := acW zs f x y + ((pre.count y : Nat) : Int) * f x
theorem amW_nil (zs : List Int) (f : Nat → Int) (x y : Nat) : amW zs f x [] y = acW zs f x y := by unfold amW; simp
theorem amW_same (zs : List Int) (f : Nat → Int) (x y : Nat) (pre : List Nat) : amW zs f x (pre ++ [y]) y = amW zs f x pre y + f x := by
  unfold amW
  rw [List.count_append, List.count_singleton_self]
  push_cast
  rw [Int.add_mul, Int.one_mul, Int.add_assoc]
theorem amW_other {zs : List Int} {f : Nat → Int} {x y i : Nat} {pre : List Nat} (h : i ≠ y) : amW zs f x (pre ++ [y]) i = amW zs f x pre i := by
  unfold amW
  rw [List.count_append, List.count_singleton]
  have : (y == i) = false := by simp; exact fun e => h e.symm
  rw [this]; simp
theorem amW_all {zs : List Int} {f : Nat → Int} {x z y : Nat} (hz : el zs x = (z : Int)) (hy : y < 62) : amW zs f x (mem z) y = acW zs f (x + 1) y := by
  have hbt : bt (el zs x) y = z.testBit y := by
    show (el zs x).toNat.testBit y = _
    rw [hz, Int.toNat_natCast]
  have hnd : (mem z).Nodup := List.Pairwise.filter _ List.nodup_range
  unfold amW
  rw [acW, hbt]
  cases h : z.testBit y with
  | true =>
    rw [count_one hnd (mem_iff.2 ⟨by omega, h⟩)]
    simp
  | false =>
    have hn : y ∉ mem z := fun hm => by rw [(mem_iff.1 hm).2] at h; cases h
    rw [List.count_eq_zero_of_not_mem hn]
    simp

/-- Block B is an array of 62 numbers. -/
def AW (W : World) (B : Nat) (g : Nat → Int) : Prop := W.heap[B]? = some (.cells (rowsA g) 58 (0, 0))
theorem AW.lt {W : World} {B : Nat} {g : Nat → Int} (h : AW W B g) : B < W.heap.size := (Array.getElem?_eq_some_iff.1 h).1
theorem AW.cell {W : World} {B : Nat} {g : Nat → Int} (h : AW W B g) {j : Nat} (hj : j < 62) : W.cell? ⟨B, j, none⟩ = some (.int .i64 (g j)) := by
  rw [cell_of_row W B j _ _ _ h]; exact rowsA_at g j hj
theorem AW.frozen {W : World} {B : Nat} {g : Nat → Int} (h : AW W B g) (j : Nat) : W.frozen? ⟨B, j, none⟩ = false := frozen_of_row W B j _ _ h
theorem AW.alloc {W : World} {B : Nat} {g : Nat → Int} (h : AW W B g) (o : Obj) : AW (W.alloc o) B g := (Below.heap_alloc W o B h.lt).trans h
theorem AW.other {W : World} {B : Nat} {g : Nat → Int} (h : AW W B g) {a : Addr} (ha : B ≠ a.block) (v : Value) : AW (W.setCell a v) B g := (Below.heap_setCell W a v B ha).trans h
theorem AW.congr {W : World} {B : Nat} {f g : Nat → Int} (h : AW W B f) (e : ∀ i, i < 62 → f i = g i) : AW W B g := by
  have : rowsA f = rowsA g := by unfold rowsA rowsL; congr 1; exact List.map_congr_left fun i hi => by rw [e i (List.mem_range.1 hi)]
  unfold AW at *; rw [← this]; exact h
theorem AW.set {W : World} {B : Nat} {f : Nat → Int} (h : AW W B f) {j : Nat} (hj : j < 62) (n : Int) : AW (W.setCell ⟨B, j, none⟩ (.int .i64 n)) B (fun i => if i = j then n else f i) := by
  unfold AW at *
  rw [heap_setCell_same W B j _ _ _ h]
  congr 2
  apply Array.ext_getElem?
  intro i
  by_cases hi : i < 62
  · rw [rowsA_at _ i hi, Array.getElem?_setIfInBounds]
    by_cases hij : j = i
    · subst hij; simp [rowsA_size, hj]
    · have : i ≠ j := fun e => hij e.symm
      simp [hij, this, rowsA_at f i hi]
  · rw [Array.getElem?_eq_none (by rw [Array.size_setIfInBounds, rowsA_size]; omega), Array.getElem?_eq_none (by rw [rowsA_size]; omega)]
theorem AW.setRow {W : World} {B : Nat} {f : Nat → Int} (h : AW W B f) (g : Nat → Int) : AW (W.setRow B (rowsA g)) B g := by
  unfold AW at *
  simp only [World.setRow, Array.getElem?_modify, if_true, h]
  rfl
theorem AW.belowAll {W W' : World} {B : Nat} {g : Nat → Int} (h : AW W B g) (hb : Below W.heap.size W W') : AW W' B g := (hb.block B h.lt).trans h
theorem infoAW : (Tryd.prog.info? 58).map (·.size) = some 62 := by kernel_rfl

set_option maxHeartbeats 4000000 in
theorem ways_in (b off cap : Nat) (zs : List Int) (cur : Nat → Int) (M : Int) (w : World) (hb : b < w.heap.size) (hc : Cells w b off zs) (hg : isG zs.length zs = true) (hT : Tab w) (hM : 0 ≤ M) (hcur : ∀ x, 0 ≤ cur x ∧ cur x ≤ M) (hMM : M ≤ 1000000000000000) :
    CallsIn Fence.wide 5 Tryd.prog 44 #[.agg #[.int .i64 zs.length, .slice (some ⟨b, off, none⟩) zs.length cap], .agg (rowsA cur)] w fun e w' => e = .returned (.agg (rowsA (acW zs cur zs.length))) ∧ Below w.heap.size w w' := by
  obtain ⟨g1, g2, g3, g4, -⟩ := isG_parts hg
  have h62 : zs.length ≤ 62 := by omega
  have hzn : ∀ i, i < zs.length → 0 ≤ el zs i ∧ (el zs i).toNat < 2 ^ zs.length := fun i hi => by
    have q0 := (isG_row_ok hg i hi).1
    have q1 := rowOk_le (rowsOk_at g4 hi)
    rw [← g3, Int.toNat_natCast] at q1
    have e : ((2 : Int) ^ zs.length) = ((2 ^ zs.length : Nat) : Int) := by simp
    rw [e] at q1
    omega
  have hp62 : 2 ^ zs.length ≤ 2 ^ 62 := Nat.pow_le_pow_right (by decide) h62
  have HZN := Lib.hid hzn
  have HAB : Hid (∀ x y, x ≤ 62 → 0 ≤ acW zs cur x y ∧ acW zs cur x y ≤ 62000000000000000) := fun x y hx => by
    have h := acW_bound zs cur M hM hcur x y
    have : (x : Int) * M ≤ 62 * 1000000000000000 := Int.mul_le_mul (by omega) hMM hM (by omega)
    omega
  have HCUR : Hid (∀ x, 0 ≤ cur x ∧ cur x ≤ 1000000000000000) := fun x => ⟨(hcur x).1, Int.le_trans (hcur x).2 hMM⟩
  have hT0 := hT.lt
  obtain ⟨Wz, hWz⟩ : ∃ Wz, Wz = (((w.alloc (.cells #[.int .i64 zs.length, .slice (some ⟨b, off, none⟩) zs.length cap] 28)).alloc (.cells (rowsA cur) 58)).alloc (.cells (rowsA fun _ => 0) 58)).alloc (.cells (rowsA fun _ => 0) 58) := ⟨_, rfl⟩
  have hsz : Wz.heap.size = w.heap.size + 4 := by rw [hWz]; simp
  have D0 : Below w.heap.size w Wz := by rw [hWz]; exact ((((Below.refl _ _).alloc (Nat.le_refl _) _).alloc (by simp) _).alloc (by simp; omega) _).alloc (by simp; omega) _
  have HG0 : Hid (Wz.heap[w.heap.size]? = some (.cells #[.int .i64 zs.length, .slice (some ⟨b, off, none⟩) zs.length cap] 28 (0, 0))) := by show _ = _; rw [hWz]; exact heap_old_at (heap_old_at (heap_old_at (World.alloc_heap_new w _) _) _) _
  have HC0 : Hid (AW Wz (w.heap.size + 1) cur) := by show AW _ _ _; rw [hWz]; exact heap_old_at (heap_old_at (heap_new_at _ _ _ (by simp)) _) _
  have HR0 : Hid (AW Wz (w.heap.size + 2) (fun _ => 0)) := by show AW _ _ _; rw [hWz]; exact heap_old_at (heap_new_at _ _ _ (by simp)) _
  have HL0 : Hid (AW Wz (w.heap.size + 3) (fun j => acW zs cur 0 j)) := by show AW _ _ _; rw [hWz]; exact heap_new_at _ _ _ (by simp)
  have HCC := Lib.hid hc
  obtain ⟨b0, b1, -, -⟩ := two_cells HG0.out
  clear hc hg hzn hcur hM hMM g3 g4
  refine callsIn_of_wp_marks Tryd.func44 rfl trivial ?_ rfl
  simp only [Tryd.ntmps44, List.size_toArray, List.length_cons, List.length_nil, Nat.reduceAdd, Nat.reduceSub, Array.replicate_succ, Array.replicate_zero, List.push_toArray, List.append_toArray, List.nil_append, List.cons_append]
  gi_upto_region 2 with fail
  refine at_world (w' := Wz) ?_ (by rw [hWz]; rfl)
  clear hWz
  gi_wp2
  clear b0 b1
  refine wpIn_loop (fun a W => ∃ (v : Nat) (Ds : List Nat) (u6 u7 u8 u13 u14 u15 u16 u17 u18 u19 u20 u21 u22 u23 u24 u25 u26 u27 u28 u29 : Value), a = { tmps := #[.agg #[.int .i64 zs.length, .slice (some ⟨b, off, none⟩) zs.length cap], .agg (rowsA cur), .pointer (some ⟨w.heap.size, 0, none⟩), .pointer (some ⟨w.heap.size + 1, 0, none⟩), .pointer (some ⟨w.heap.size + 1 + 1, 0, none⟩), .pointer (some ⟨w.heap.size + 1 + 1 + 1, 0, none⟩), u6, u7, u8, .pointer (some ⟨w.heap.size, 1, none⟩), .slice (some ⟨b, off, none⟩) zs.length cap, .int .i64 zs.length, .int .i64 v, u13, u14, u15, u16, u17, u18, u19, u20, u21, u22, u23, u24, u25, u26, u27, u28, u29], defers := marks Ds } ∧
      v ≤ zs.length ∧ Hid (AW W (w.heap.size + 3) (fun j => acW zs cur v j)) ∧ Hid (AW W (w.heap.size + 1) cur) ∧ Hid (AW W (w.heap.size + 2) (fun _ => 0)) ∧ Below w.heap.size w W ∧ DsOk (w.heap.size + 4) W Ds ∧ w.heap.size + 4 ≤ W.heap.size) (fun a _ => zs.length - (intOf (a.tmps.getD 12 undef)).toNat) ?h0 ?round
  case h0 =>
    exact ⟨0, [], _, _, _, _, _, _, _, _, _, _, _, _, _, _, _, _, _, _, _, _, rfl, Nat.zero_le _, HL0, HC0, HR0, D0, ⟨List.nodup_nil, by simp⟩, by omega⟩
  case round =>
    rintro a W ⟨v, Ds, u6, u7, u8, u13, u14, u15, u16, u17, u18, u19, u20, u21, u22, u23, u24, u25, u26, u27, u28, u29, rfl, hv, HL, HC, HR, hB, hD, hsw⟩
    by_cases hlt : v < zs.length
    · have hlti : (v : Int) < zs.length := by omega
      have hv0 : (0 : Int) ≤ v := by omega
      obtain ⟨z, hzz⟩ : ∃ z : Nat, el zs v = (z : Int) := ⟨(el zs v).toNat, by have := (HZN.out v hlt).1; omega⟩
      have hzlt : z < 2 ^ zs.length := by have := (HZN.out v hlt).2; rw [hzz, Int.toNat_natCast] at this; exact this
      have cz : W.cell? ⟨b, off + v, none⟩ = some (.int .i64 (z : Int)) := by rw [← hzz]; exact (HCC.out.below hB hb) v hlt
      have HZZ := Lib.hid hzz
      clear hzz
      gi_wp2_with (refine ⟨trivial, ?_⟩; gi_at_call 42; refine (callsIn_wide.2 (membersOf_any _ _)).mono ?_; rintro e w' ⟨rfl, rfl⟩)
      obtain ⟨W1, hW1⟩ : ∃ W1, W1 = (W.alloc (.cells #[.int .i64 v] 3)).alloc (.cells #[.int .i64 z] 2) := ⟨_, rfl⟩
      refine at_world (w' := W1) ?_ hW1.symm
      have hs1 : W1.heap.size = W.heap.size + 2 := by rw [hW1]; simp
      have hbb : Below W.heap.size W W1 := by rw [hW1]; exact ((Below.refl _ _).alloc (Nat.le_refl _) _).alloc (by simp) _
      have hb1 : Boxed W1 W.heap.size 3 (.int .i64 v) := by rw [hW1]; exact (Boxed.new W 3 _).alloc _
      have hc1 : W1.cell? ⟨W.heap.size + 1, 0, none⟩ = some (.int .i64 z) := by rw [hW1]; have := World.cell?_alloc_new (w := W.alloc (.cells #[.int .i64 v] 3)) #[.int .i64 z] 2 0; rw [World.size_alloc] at this; rw [this]; rfl
      have hB1 : Below w.heap.size w W1 := hB.trans (hbb.mono (by omega))
      have hT1 : Tab W1 := hT.belowAll hB1
      have HL1 := Lib.hid (HL.out.belowAll hbb)
      have HC1 := Lib.hid (HC.out.belowAll hbb)
      have HR1 := Lib.hid (HR.out.belowAll hbb)
      have hD1 : DsOk (w.heap.size + 4) W1 Ds := hD.kept fun Dd hDd => hbb.block Dd (Array.getElem?_eq_some_iff.1 (hD.2 Dd hDd).2).1
      clear hW1 HL HC HR hD cz
      refine wpIn_rangeFunc_ownF rfl (by omega) (gf := 67) (lb := #[.pointer (some ⟨W.heap.size + 1, 0, none⟩)]) rfl trivial (enters_of Tryd.func67 (by kernel_rfl) rfl)
        (members_stops 4 (by omega) (W.heap.size + 1) w.heap.size z (by omega) W1 (by omega) hc1 hT1 hT0) belowK_t (belowK_b (by omega)) (Below.refl _ _) (fun _ => rfl)
        (fun pre W' => Hid (AW W' (w.heap.size + 3) (fun j => amW zs cur v pre.unattach j)) ∧ Boxed W' W.heap.size 3 (.int .i64 v) ∧ Hid (AW W' (w.heap.size + 1) cur) ∧ Hid (AW W' (w.heap.size + 2) (fun _ => 0)) ∧ (∀ D, D ∈ Ds → W'.heap[D]? = some (.deferred (some []))) ∧ Below w.heap.size w W' ∧ W1.heap.size ≤ W'.heap.size)
        (fun _ _ _ => False)
        ?hI (fun _ _ _ _ _ hs _ _ => hs) ?h0 (fun y => { tmps := #[.agg #[.int .i64 zs.length, .slice (some ⟨b, off, none⟩) zs.length cap], .agg (rowsA cur), .pointer (some ⟨w.heap.size, 0, none⟩), .pointer (some ⟨w.heap.size + 1, 0, none⟩), .pointer (some ⟨w.heap.size + 1 + 1, 0, none⟩), .pointer (some ⟨w.heap.size + 1 + 1 + 1, 0, none⟩), .pointer (some ⟨W.heap.size, 0, none⟩), .int .i64 z, .int .i64 y.1, .pointer (some ⟨w.heap.size, 1, none⟩), .slice (some ⟨b, off, none⟩) zs.length cap, .int .i64 zs.length, .int .i64 v, .bool true, .int .i64 v, .pointer (some ⟨b, off + v, none⟩), .int .i64 z, .int .i64 z, .func (.func 67) #[] #[.pointer (some ⟨W.heap.size + 1, 0, none⟩)], .int .i64 y.1, u20, u21, u22, u23, u24, u25, u26, u27, u28, u29], defers := [] }) ?assign ?body ?done ?stop
      case hI =>
        rintro pre A B row ⟨h1, h2, h3, h4, h5, h6, h7⟩ hg hr
        refine ⟨kept_block hg hr (by omega) h1.out, kept_block hg hr (by omega) h2, kept_block hg hr (by omega) h3.out, kept_block hg hr (by omega) h4.out, fun D hD => kept_block hg hr ?_ (h5 D hD), ?_, Nat.le_trans h7 hg.size⟩
        · exact (Array.getElem?_eq_some_iff.1 (hD1.2 D hD).2).1
        · exact h6.grown hg h6.size (fun k e => by have := (hr k e).1; omega)
      case h0 =>
        exact ⟨HL1.out.congr (fun i _ => by rw [show List.unattach ([] : List (Mem z)) = [] from rfl, amW_nil]), hb1, HC1, HR1, fun D hD => (hD1.2 D hD).2, hB1, Nat.le_refl _⟩
      case assign =>
        intro l x W' K hK
        gi_wp2
        exact hK
      case body =>
        rintro l pre y W' ⟨hA', hv', hC', hR', hD', hB', hs'⟩ hlen
        have hy62 : y.1 < 62 := mem_lt62 (Nat.lt_of_lt_of_le hzlt hp62) y.2
        have ca := hA'.out.cell hy62
        have cf := hA'.out.frozen y.1
        have cv := hv'.cell
        have cc := hC'.out.cell (j := v) (by omega)
        have hy0 : (0 : Int) ≤ y.1 := by omega
        have hy1 : (y.1 : Int) < 62 := by omega
        have hv62 : (v : Int) < 62 := by omega
        have hcount : pre.unattach.count y.1 ≤ 64 := by
          have h1 := List.count_le_length (a := y.1) (l := pre.unattach)
          have h2 : pre.unattach.length = pre.length := by simp
          have h3 : (memL z).length = (mem z).length := by unfold memL; simp
          have h4 : (mem z).length ≤ 64 := by unfold mem; exact Nat.le_trans (List.length_filter_le _ _) (by simp)
          omega
        have hbd := HAB.out v y.1 (by omega)
        have hcv := HCUR.out v
        have hmul : ((pre.unattach.count y.1 : Nat) : Int) * cur v ≤ 64 * 1000000000000000 := Int.mul_le_mul (by omega) (by omega) hcv.1 (by omega)
        have hmul0 : 0 ≤ ((pre.unattach.count y.1 : Nat) : Int) * cur v := Int.mul_nonneg (by omega) hcv.1
        have hval : 0 ≤ amW zs cur v pre.unattach y.1 ∧ amW zs cur v pre.unattach y.1 ≤ 126000000000000000 := by unfold amW; omega
        have HSM := Lib.hid (amW_same zs cur v y.1 pre.unattach)
        have HOT : Hid (∀ i, i ≠ y.1 → amW zs cur v (pre.unattach ++ [y.1]) i = amW zs cur v pre.unattach i) := fun i h => amW_other h
        have HAS : Hid (∀ n, AW (W'.setCell ⟨w.heap.size + 3, y.1, none⟩ (.int .i64 n)) (w.heap.size + 3) (fun i => if i = y.1 then n else amW zs cur v pre.unattach i)) := fun n => hA'.out.set hy62 n
        generalize hgA : amW zs cur v pre.unattach y.1 = A at *
        generalize hgC : cur v = C at *
        have hwA : IntKind.i64.wrap (A + C) = A + C := IntWalk.i64_in _ (by omega)
        clear hcount hbd hmul hmul0
        have hm : Tryd.prog.follows Departure.mixedOrders = true := mixed
        gi_wp2
        gi_region_with_o (fail)
        all_goals
          refine ⟨(KeepsOthers.setCell _ _ _).trans (KeepsOthers.drew _), ?_, ?_, ?_, ?_, ?_, ?_, ?_, ?_⟩
          · exact ((Below.refl _ _).setCell (p := ⟨w.heap.size + 3, y.1, none⟩) (by simp) _).drew
          · show AW _ _ _
            refine AW.congr (HAS.out (A + C)) fun i _ => ?_
            rw [List.unattach_append, show List.unattach [y] = [y.1] from rfl]
            by_cases e : i = y.1
            · rw [if_pos e, e, HSM.out]
            · rw [if_neg e, HOT.out i e]
          · exact (Below.heap_setCell _ _ _ _ (by simp; omega)).trans hv'
          · exact hC'.out.other (by simp) _
          · exact hR'.out.other (by simp) _
          · exact fun Dd hDd => (Below.heap_setCell _ _ _ _ (by have := (hD1.2 Dd hDd).1; simp; omega)).trans (hD' Dd hDd)
          · exact (hB'.setCell (p := ⟨w.heap.size + 3, y.1, none⟩) (by simp) _).drew
          · simpa using hs'
      case done =>
        rintro D ys W2 hDD rfl ⟨hA', hv', hC', hR', hD', hB', hs'⟩ hK
        have HA2 : Hid (AW W2 (w.heap.size + 3) (fun j => acW zs cur (v + 1) j)) := hA'.out.congr (fun i hi => by
          rw [show (memL z).unattach = mem z from memL_val z]; exact amW_all HZZ.out hi)
        gi_wp2
        refine ⟨⟨v + 1, D :: Ds, _, _, _, _, _, _, _, _, _, _, _, _, _, _, _, _, _, _, _, _, rfl, by omega, HA2, hC', hR', hB', ?_, by omega⟩, ?_⟩
        · refine ⟨List.nodup_cons.2 ⟨fun hDD' => ?_, hD1.1⟩, fun E hE => ?_⟩
          · have := (Array.getElem?_eq_some_iff.1 (hD1.2 D hDD').2).1; omega
          · rcases List.mem_cons.1 hE with rfl | hE
            · exact ⟨by omega, hK⟩
            · exact ⟨(hD1.2 E hE).1, hD' E hE⟩
        · simp [intOf]; omega
      case stop =>
        rintro D c pre W' _ _ h _
        exact h.elim
    · obtain rfl : v = zs.length := by omega
      gi_wp2_with (first | (refine wpListIn_load_row rfl 58 _ rfl (w.heap.size + 1 + 1 + 1) rfl 58 (rowsA fun j => acW zs cur zs.length j) (0, 0) _ HL.out Tryd.underlying58 rfl (by rw [rowsA_size]; exact infoAW) ?_) | (refine wpListIn_store_row rfl 58 _ _ rfl (w.heap.size + 1 + 1) (rowsA fun j => acW zs cur zs.length j) rfl rfl 58 (rowsA fun _ => 0) HR.out (by rw [rowsA_size]; exact infoAW) (by rw [rowsA_size, rowsA_size]) (rowsA_one _) ?_))
      have hRn := HR.out.setRow (fun j => acW zs cur zs.length j)
      have hD2 : DsOk (w.heap.size + 4) (W.setRow (w.heap.size + 1 + 1) (rowsA fun j => acW zs cur zs.length j)) Ds := hD.kept fun Dd hDd => heap_setRow_other W _ _ _ (by have := (hD.2 Dd hDd).1; omega)
      have hB2 : Below w.heap.size w (W.setRow (w.heap.size + 1 + 1) (rowsA fun j => acW zs cur zs.length j)) := hB.trans (setRow_below (by omega) _)
      refine leaves_marks (H := w.heap.size + 4) Ds _ hD2 fun W' hs hb' => ?_
      have hRW := (hb'.block (w.heap.size + 1 + 1) (by omega)).trans hRn
      exact ⟨_, results_cell_row (p := 4) (ty := 58) rfl _ W' (w.heap.size + 1 + 1) 58 _ (0, 0) _ rfl hRW Tryd.underlying58 rfl (by rw [rowsA_size]; exact infoAW), rfl, hB2.trans (hb'.mono (by omega))⟩
end Go.Proofs.YtlodaeoikkjbkaaDoor
