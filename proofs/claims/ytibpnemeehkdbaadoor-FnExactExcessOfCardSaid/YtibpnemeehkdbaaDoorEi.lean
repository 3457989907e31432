/-
  impl.edgesIn: an iterator over an iterator.
-/
import Derived.Test.YtibpnemeehkdbaaDoorRo
import Derived.Test.YtibpnemeehkdbaaDoorLv1
import Derived.Sort.CutIn
import Derived.Shelf.RegionOpen
import Derived.RangeFuncLeaves
namespace Go.Proofs.YtibpnemeehkdbaaDoor
set_option maxRecDepth 100000
set_option maxRecDepth 100000
open Go.RowKit Go.Shelf

attribute [local go_sem] Oper.semAt_some

/-- The neighbours of v that are greater. -/
def hiN (zs : List Int) (v : Nat) : Nat := anot (el zs v).toNat (2 ^ (v + 1) - 1)
/-- The edges of the first k vertices, the lesser one first. -/
def edP (zs : List Int) (k : Nat) : List (Nat × Nat) := (List.range k).flatMap fun v => (mem (hiN zs v)).map fun w => (v, w)
def edL (zs : List Int) : List (Nat × Nat) := edP zs zs.length
theorem edP_succ (zs : List Int) (k : Nat) : edP zs (k + 1) = edP zs k ++ (mem (hiN zs k)).map fun w => (k, w) := by
  unfold edP; rw [List.range_succ, List.flatMap_append]; simp
theorem edP_pre (zs : List Int) {k m : Nat} (h : k ≤ m) : edP zs k <+: edP zs m := by
  induction m with
  | zero => obtain rfl : k = 0 := (by omega); exact List.prefix_refl _
  | succ m ih =>
    by_cases hk : k ≤ m
    · exact (ih hk).trans (by rw [edP_succ]; exact List.prefix_append _ _)
    · obtain rfl : k = m + 1 := (by omega); exact List.prefix_refl _
theorem low_bit {v j : Nat} : (2 ^ (v + 1) - 1).testBit j = decide (j ≤ v) := by
  rw [Nat.testBit_two_pow_sub_one]
  exact decide_eq_decide.2 ⟨fun h => by omega, fun h => by omega⟩
theorem hiN_mem {zs : List Int} {v w : Nat} : w ∈ mem (hiN zs v) ↔ w < 64 ∧ v < w ∧ bt (el zs v) w = true := by
  rw [mem_iff, hiN, anot_bit, low_bit]
  unfold bt
  simp
  exact fun _ => ⟨fun h => ⟨h.2, h.1⟩, fun h => ⟨h.2, h.1⟩⟩
theorem edL_mem {zs : List Int} {v w : Nat} : (v, w) ∈ edL zs ↔ v < zs.length ∧ w < 64 ∧ v < w ∧ bt (el zs v) w = true := by
  unfold edL edP
  simp only [List.mem_flatMap, List.mem_range, List.mem_map, Prod.mk.injEq]
  constructor
  · rintro ⟨a, h1, b, h2, rfl, rfl⟩; exact ⟨h1, hiN_mem.1 h2⟩
  · rintro ⟨h1, h2⟩; exact ⟨v, h1, w, hiN_mem.2 h2, rfl, rfl⟩

/-- What an iterator over the edges reads: the box of the graph, its rows, the table. -/
def RdE (a b off cap : Nat) (zs : List Int) (X : World) : Prop := X.heap[a]? = some (.cells #[.int .i64 zs.length, .slice (some ⟨b, off, none⟩) zs.length cap] 28 (0, 0)) ∧ Cells X b off zs ∧ Tab X

/-- A function that returns with marks alone among its deferred calls: what does not mind a turn of blocks from B on is kept. -/
theorem leaves_marksO {F : Fence} {n : Nat} {P : Program} {fn : Func} {tmps : Array Value} {R : Ending → World → Prop} {B : Nat} {J : World → Prop} (hJ : OwnFrom B (fun (_ : Unit) => J)) : ∀ (Ds : List Nat) (W : World), DsOk B W Ds → J W →
    (∀ W', J W' → LeavesIn F n P fn tmps R [] .returning W') → LeavesInM F n P fn tmps R (marks Ds) .returning W
  | [], W, _, h0, h => h W h0
  | D :: Ds, W, hD, h0, h => by
    have h1 := hD.2 D List.mem_cons_self
    refine ⟨by simp, .inl ⟨D, _, rfl, run_takeDeferred h1.2, ?_⟩⟩
    have hnd := List.nodup_cons.1 hD.1
    have hp : ∀ k, k ≠ D → (W.putObj D (.deferred none)).heap[k]? = W.heap[k]? := fun k hk => World.putObj_heap_other hk
    exact leaves_marksO hJ Ds _ ⟨hnd.2, fun E hE => ⟨(hD.2 E (List.mem_cons_of_mem _ hE)).1, (hp E (fun e => hnd.1 (e ▸ hE))).trans (hD.2 E (List.mem_cons_of_mem _ hE)).2⟩⟩
      (hJ.putObj (s := ()) _ h0 h1.1 h1.2 rfl) h

/-- A walk that ends well alone may forget how it would end otherwise. -/
theorem wpIn_calm {F : Fence} {n : Nat} {P : Program} {c : Code} {K : Act → World → Prop} {Q' : Exit → Act → World → Prop} {a : Act} {w : World} (h : c.wpIn F n P (Exit.then K (fun _ _ _ => False)) a w) : c.wpIn F n P (Exit.then K Q') a w :=
  Code.wpIn_mono (fun e a w he => by cases e <;> first | exact he | exact (he : False).elim) h

theorem roundIn_wide {n m l0 l : Nat} {P : Program} {f : FuncId} {tmps : Array Value} {assign body : Code} {w : World} {R : Ending → World → Prop} (h : RoundIn Fence.wide n P l f tmps assign body w R) : RoundIn (Fence.wide.inRound l0) m P l f tmps assign body w R :=
  ⟨h.1, fun c cs _ => h.2 c cs (fun d hd => by cases hd)⟩
theorem memb_fin {X1 : World} {s : Nat} (f : FuncId) (v : Value) (t : TypeId) (hs : X1.heap.size = s) : Value.func (.func f) #[] #[.pointer (some ⟨X1.heap.size, 0, none⟩)] = Value.func (.func f) #[] #[.pointer (some ⟨s, 0, none⟩)] ∧ X1.grownBy (X1.alloc (.cells #[v] t)).drew none ∧
    (X1.alloc (.cells #[v] t)).drew.cell? ⟨s, 0, none⟩ = some v ∧ s < (X1.alloc (.cells #[v] t)).drew.heap.size := by
  subst hs
  refine ⟨rfl, grown_trans (World.grownBy_alloc X1 _ none) (grown_drew _ _), ?_, ?_⟩
  · rw [cell_drew_own, World.cell?_alloc_new]; rfl
  · show _ < (X1.alloc _).heap.size
    simp

set_option maxHeartbeats 2000000 in
theorem members1O_in (n : Nat) (hn : 1 ≤ n) (l Bn : Nat) (x : Nat) (hx : x < 9223372036854775808) (J Jx : List (Mem x) → World → Prop) (hTab : ∀ pre X, J pre X → Tab X)
    (hY : ∀ pre y W, J pre W → pre ++ [y] <+: memL x → YieldAt Fence.wide (n - 1) Tryd.prog l #[.int .i64 (y : Mem x).1] W fun e W' =>
      (e = .returned (.bool true) ∧ J (pre ++ [y]) W') ∨ (e = .returned (.bool false) ∧ Jx (pre ++ [y]) W'))
    (W : World) (hBn : W.cell? ⟨Bn, 0, none⟩ = some (.int .i64 x)) (h0 : J [] W) :
    CallsIn Fence.wide n Tryd.prog 71 #[.func (.yield l) #[] #[], .pointer (some ⟨Bn, 0, none⟩)] W fun e W' => (∃ v, e = .returned v) ∧
      ((∃ ys, ys = memL x ∧ J ys W') ∨ (∃ pre, pre <+: memL x ∧ Jx pre W')) := by
  refine callsIn_of_wp Tryd.func71 rfl trivial ?_ rfl
  simp only [Tryd.ntmps71, List.size_toArray, List.length_cons, List.length_nil, Nat.reduceAdd, Nat.reduceSub, Array.replicate_succ, Array.replicate_zero, List.push_toArray, List.append_toArray, List.nil_append, List.cons_append]
  gi_wp2
  gi_loopw [3] (fun p wr => ∃ (pre rest : List (Mem x)) (y : Nat), p = .int .i64 y ∧ y ≤ x ∧ Hid (memL x = pre ++ rest) ∧ Hid (rest.map (·.1) = mem y) ∧ J pre wr)
    (fun p wr => (intOf p).toNat)
  case atStart =>
    exact ⟨[], memL x, x, by rfl, Nat.le_refl _, rfl, memL_val x, h0⟩
  case round =>
    obtain ⟨pre, rest, y, rfl, hyx, HP, HR, hJ⟩ := hrel
    have hTr := hTab _ _ hJ
    by_cases hy0 : y = 0
    · subst hy0
      have hr : rest = [] := by have := HR.out; rw [mem_zero] at this; exact List.map_eq_nil_iff.1 this
      subst hr
      gi_wp2
      go_end0
      exact ⟨⟨_, rfl⟩, .inl ⟨pre, by have := HP.out; simp at this; exact this.symm, hJ⟩⟩
    · have hy64 : y < 2 ^ 64 := by omega
      have hms := mem_step y hy0 hy64
      cases rest with
      | nil => have := HR.out; rw [hms] at this; simp at this
      | cons z rest =>
        have h1 := HR.out
        rw [hms, List.map_cons, List.cons.injEq] at h1
        obtain ⟨hz, hrest⟩ := h1
        have HZ := Lib.hid hz
        have HR2 := Lib.hid hrest
        clear hz hrest hms
        obtain ⟨fn, tmps, assign, body, hyy, hRR⟩ := hY pre z wr hJ ⟨rest, by rw [HP.out]; simp⟩
        have hne : ((y : Int) != 0) = true := by rw [bne_iff_ne]; omega
        have htz : Calls Tryd.prog 72 #[.int .i64 y] wr fun e w' => e = .returned (.int .i64 z.1) ∧ wr = w' := by
          rw [HZ.out]; exact first_any y (by omega) hy0 wr hTr
        gi_wp2_with (refine ⟨trivial, ?_⟩; gi_at_call 72; refine (callsIn_wide.2 htz).mono ?_; rintro e w' ⟨rfl, rfl⟩)
        refine hRR.mono ?_
        have E1 : Hid (bits BinOp.and IntKind.i64 (y : Int) ((y : Int) - 1) = ((y &&& (y - 1) : Nat) : Int)) := by
          show _ = _
          rw [show ((y : Int) - 1) = ((y - 1 : Nat) : Int) from by omega]
          exact and_i64 y (y - 1) (by omega) (by omega)
        have hdl := drop_lt y hy0
        rintro e W3 (⟨rfl, hJ3⟩ | ⟨rfl, hJx3⟩)
        · gi_wp2
          go_roundw
          case rel => exact ⟨pre ++ [z], rest, y &&& (y - 1), by rw [E1.out], by omega, by show _ = _; rw [HP.out]; simp, HR2, hJ3⟩
          case measure => rw [E1.out]; simp [intOf]; omega
        · gi_wp2
          refine bodyPost_ret (results_none rfl _ _ _) rfl ?_
          exact ⟨⟨_, rfl⟩, .inr ⟨pre ++ [z], ⟨rest, by rw [HP.out]; simp⟩, hJx3⟩⟩

theorem membersO_stops (n : Nat) (hn : 1 ≤ n) (Bn : Nat) (x : Nat) (hx : x < 9223372036854775808) (w : World) (hBl : Bn < w.heap.size) (hBn : w.cell? ⟨Bn, 0, none⟩ = some (.int .i64 x)) :
    SeqO Fence.wide n Tryd.prog 71 #[.pointer (some ⟨Bn, 0, none⟩)] (fun y : Mem x => #[.int .i64 y.1]) (fun _ _ => True) (fun _ X => Tab X) (fun pre y => pre ++ [y] <+: memL x) (fun ys => ys = memL x) (fun pre => pre <+: memL x) w := by
  intro l J Jx W hW _ _ _ hTab hY h0
  refine (members1O_in n hn l Bn x hx (J []) Jx (fun pre X h => (hTab _ _ _ h).1) (fun pre y X h hp => ?_) W ((hW.cell (p := ⟨Bn, 0, none⟩) hBl).trans hBn) h0).mono ?_
  · obtain ⟨fn, tmps, assign, body, h1, h2⟩ := hY [] pre y X h hp
    exact ⟨fn, tmps, assign, body, h1, h2.mono fun e X' h3 => h3.2.imp (fun h4 => ⟨h4.1, h4.2.1⟩) id⟩
  · rintro e W' ⟨h1, h2⟩
    exact ⟨h1, h2.imp (fun ⟨xs, h3, h4⟩ => ⟨xs, [], h3, h4⟩) id⟩

/-- The blocks that the iterator itself has laid, as a round finds them. -/
def ItA (A : List Nat) (l Y : Nat) (X : World) : Prop := Y ∈ A ∧ Boxed X Y 39 (.func (.yield l) #[] #[])

set_option maxHeartbeats 4000000 in
theorem edges1_in (n : Nat) (hn : 4 ≤ n) (l a b off cap : Nat) (zs : List Int) (hg : isG zs.length zs = true) (J : List Nat → List (Nat × Nat) → World → Prop) (Jx : List (Nat × Nat) → World → Prop)
    (W : World) (hJ : ∀ A, OwnFrom W.heap.size (J A)) (hJx : OwnFrom W.heap.size Jx) (hgrow : ∀ A pre X o, J A pre X → J (X.heap.size :: A) pre (X.alloc o))
    (hRd : ∀ A pre X, J A pre X → RdE a b off cap zs X ∧ W.heap.size ≤ X.heap.size)
    (hY : ∀ A pre x X, J A pre X → pre ++ [x] <+: edL zs → YieldAt Fence.wide (n - 1) Tryd.prog l #[.int .i64 (x : Nat × Nat).1, .int .i64 x.2] X fun e X' => KeepsFrom W.heap.size X X' ∧
      ((e = .returned (.bool true) ∧ J A (pre ++ [x]) X' ∧ ∀ k, k ∈ A → X'.heap[k]? = X.heap[k]?) ∨ (e = .returned (.bool false) ∧ Jx (pre ++ [x]) X')))
    (h0 : J [] [] W) :
    CallsIn Fence.wide n Tryd.prog 63 #[.func (.yield l) #[] #[], .pointer (some ⟨a, 0, none⟩)] W fun e W' => (∃ v, e = .returned v) ∧
      ((∃ ys A, ys = edL zs ∧ J A ys W') ∨ (∃ pre, pre <+: edL zs ∧ Jx pre W')) := by
  obtain ⟨g1, g2, g3, g4, -⟩ := isG_parts hg
  have h62 : zs.length ≤ 62 := by omega
  have hzr := isG_row_ok hg
  have HJ := Lib.hid hJ; have HJX := Lib.hid hJx; have HGR := Lib.hid hgrow; have HRD := Lib.hid hRd; have HY := Lib.hid hY; have HZR := Lib.hid hzr
  have HJ0 : Hid (J [W.heap.size] [] (W.alloc (.cells #[.func (.yield l) #[] #[]] 39))) := hgrow _ _ _ _ h0
  have HB0 : Hid (Boxed (W.alloc (.cells #[.func (.yield l) #[] #[]] 39)) W.heap.size 39 (.func (.yield l) #[] #[])) := Boxed.new W _ _
  obtain ⟨b0, b1, -, -⟩ := two_cells (hRd _ _ _ HJ0.out).1.1
  clear hJ hJx hgrow hRd hY h0 hg hzr g3 g4
  refine callsIn_of_wp_marks Tryd.func63 rfl trivial ?_ rfl
  simp only [Tryd.ntmps63, List.size_toArray, List.length_cons, List.length_nil, Nat.reduceAdd, Nat.reduceSub, Array.replicate_succ, Array.replicate_zero, List.push_toArray, List.append_toArray, List.nil_append, List.cons_append]
  gi_wp2
  clear b0 b1
  refine wpIn_loop (fun x X => ∃ (k : Nat) (A : List Nat) (Ds : List Nat) (u3 u4 u8 u9 u10 u11 u12 u13 u14 u15 u16 u17 u18 u19 u20 u21 u22 u23 u24 u25 u26 : Value), x = { tmps := #[.func (.yield l) #[] #[], .pointer (some ⟨a, 0, none⟩), .pointer (some ⟨W.heap.size, 0, none⟩), u3, u4, .pointer (some ⟨a, 0, none⟩), .int .i64 zs.length, .int .i64 k, u8, u9, u10, u11, u12, u13, u14, u15, u16, u17, u18, u19, u20, u21, u22, u23, u24, u25, u26], defers := marks Ds } ∧
      k ≤ zs.length ∧ Hid (J A (edP zs k) X) ∧ Hid (ItA A l W.heap.size X) ∧ DsOk W.heap.size X Ds ∧ W.heap.size < X.heap.size) (fun x _ => zs.length - (intOf (x.tmps.getD 7 undef)).toNat) ?h0 ?round
  case h0 =>
    exact ⟨0, [W.heap.size], [], _, _, _, _, _, _, _, _, _, _, _, _, _, _, _, _, _, _, _, _, _, rfl, Nat.zero_le _, HJ0, ⟨List.mem_cons_self, HB0.out⟩, ⟨List.nodup_nil, by simp⟩, by simp⟩
  case round =>
    clear HJ0 HB0
    rintro x X ⟨k, A, Ds, u3, u4, u8, u9, u10, u11, u12, u13, u14, u15, u16, u17, u18, u19, u20, u21, u22, u23, u24, u25, u26, rfl, hk, HK, HI, hD, hsX⟩
    by_cases hlt : (k : Int) < zs.length
    · have hkl : k < zs.length := by omega
      have hk0 : (0 : Int) ≤ k := by omega
      have HJ1 : Hid (J (X.heap.size :: A) (edP zs k) (X.alloc (.cells #[.int .i64 k] 2))) := HGR.out _ _ _ _ HK.out
      obtain ⟨X1, hX1⟩ : ∃ X1, X1 = X.alloc (.cells #[.int .i64 k] 2) := ⟨_, rfl⟩
      have hv1 : Boxed X1 X.heap.size 2 (.int .i64 k) := by rw [hX1]; exact Boxed.new X _ _
      have hi1 : Boxed X1 W.heap.size 39 (.func (.yield l) #[] #[]) := by rw [hX1]; exact HI.out.2.alloc _
      have hD1 : DsOk W.heap.size X1 Ds := by rw [hX1]; exact hD.alloc _
      have hs1 : X1.heap.size = X.heap.size + 1 := by rw [hX1]; simp
      rw [← hX1] at HJ1
      have hR1 := (HRD.out _ _ _ HJ1.out).1
      obtain ⟨b0, b1, -, -⟩ := two_cells hR1.1
      obtain ⟨z, hzz⟩ : ∃ z : Nat, el zs k = (z : Int) := ⟨(el zs k).toNat, by have := (HZR.out k hkl).1; omega⟩
      have hz63 : z < 2 ^ 63 := by have := (HZR.out k hkl).2; omega
      have cz : X1.cell? ⟨b, off + k, none⟩ = some (.int .i64 (z : Int)) := by rw [← hzz]; exact hR1.2.1 k hkl
      have cv := hv1.cell
      have HZZ := Lib.hid hzz
      have hav := fun Z => allV_any ((k : Int) + 1) Z (by omega) (by omega)
      have e1 : (2 : Int) ^ ((k : Int) + 1).toNat - 1 = ((2 ^ (k + 1) - 1 : Nat) : Int) := by
        rw [show ((k : Int) + 1).toNat = k + 1 by omega]
        have h2 := Nat.two_pow_pos (k + 1)
        have e : ((2 : Int) ^ (k + 1)) = ((2 ^ (k + 1) : Nat) : Int) := by simp
        rw [e]; omega
      rw [e1] at hav
      have HAV := Lib.hid hav
      have han := andNot_nat z (2 ^ (k + 1) - 1) hz63
      obtain ⟨M, hM⟩ : ∃ M, M = 2 ^ (k + 1) - 1 := ⟨_, rfl⟩
      rw [← hM] at han HAV
      clear hzz hav e1
      have HS1 := Lib.hid hs1
      clear hs1
      gi_wp2_with fail
      rw [← hX1]
      have HM := Lib.hid hM
      clear hX1 hM
      gi_cut [19] from 10 (fun t Z => t = .func (.func 71) #[] #[.pointer (some ⟨X.heap.size + 1, 0, none⟩)] ∧ X1.grownBy Z none ∧ Z.cell? ⟨X.heap.size + 1, 0, none⟩ = some (.int .i64 (anot z M)) ∧ X.heap.size + 1 < Z.heap.size)
      case first =>
        have hmix := mixed
        have h1n : 1 ≤ n := by omega
        have hwr : IntKind.i64.wrap ((k : Int) + 1) = (k : Int) + 1 := IntWalk.i64_in _ ⟨by omega, by omega⟩
        refine wpIn_calm ?_
        gi_region_with_o (first
          | (refine ⟨trivial, ?_⟩; gi_at_call 51; refine (callsIn_wide.2 (HAV.out _)).mono ?_; rintro e w5 ⟨rfl, rfl⟩)
          | (refine ⟨trivial, ?_⟩; gi_at_call 64; refine (callsIn_wide.2 (membersOf_any _ _)).mono ?_; rintro e w' ⟨rfl, rfl⟩))
        all_goals
          gi_wp2_with fail
          gi_meet
          exact memb_fin _ _ _ HS1.out
      case rest =>
        obtain ⟨rfl, hgZ, hcZ, hsZ⟩ := hcut
        have hJZ : Hid (J (X.heap.size :: A) (edP zs k) wc) := HJ.out _ _ _ _ none HJ1.out hgZ (fun r e => by cases e)
        have hRZ := (HRD.out _ _ _ hJZ.out).1
        have hvZ : Boxed wc X.heap.size 2 (.int .i64 k) := hv1.kept hgZ (by simp)
        have hiZ : Boxed wc W.heap.size 39 (.func (.yield l) #[] #[]) := hi1.kept hgZ (by simp)
        have hDZ : DsOk W.heap.size wc Ds := hD1.kept fun D hDD => hgZ.block D (Array.getElem?_eq_some_iff.1 (hD1.2 D hDD).2).1 (by simp)
        have hTZ := hRZ.2.2
        have HMM : Hid (anot z M = hiN zs k) := by show _ = _; unfold hiN; rw [HZZ.out, Int.toNat_natCast, HM.out]
        have hlt63 : anot z M < 2 ^ 63 := anot_lt hz63
        clear HJ1 hv1 hi1 hD1 b0 b1 cz cv HAV han HS1 hgZ hRZ hR1
        have h1n : 1 ≤ n := by omega
        gi_wp2
        refine wpIn_rangeO rfl (by omega) (gf := 71) (lb := #[.pointer (some ⟨X.heap.size + 1, 0, none⟩)]) rfl trivial (enters_of Tryd.func71 (by kernel_rfl) rfl)
          (membersO_stops (n - 1) (by omega) (X.heap.size + 1) (anot z M) (by omega) wc hsZ hcZ) (fun _ _ => trivial) (fun _ _ _ _ _ _ _ _ => trivial) (Below.refl _ _) (fun _ => rfl)
          (fun A' pre X' => Hid (J (A' ++ X.heap.size :: A) (edP zs k ++ pre.unattach.map fun w => (k, w)) X') ∧ Hid (ItA A l W.heap.size X') ∧ Hid (Boxed X' X.heap.size 2 (.int .i64 k)) ∧ Hid (∀ D, D ∈ Ds → X'.heap[D]? = some (.deferred (some []))) ∧ wc.heap.size ≤ X'.heap.size)
          (fun c _ X' => c = .ret ∧ Hid (∃ pre', pre' <+: edL zs ∧ Jx pre' X') ∧ Hid (∀ D, D ∈ Ds → X'.heap[D]? = some (.deferred (some []))))
          ?hI ?hIx ?hgr ?hRdd ?h0c (fun y => { tmps := #[.func (.yield l) #[] #[], .pointer (some ⟨a, 0, none⟩), .pointer (some ⟨W.heap.size, 0, none⟩), .pointer (some ⟨X.heap.size, 0, none⟩), .int .i64 y.1, .pointer (some ⟨a, 0, none⟩), .int .i64 zs.length, .int .i64 k, .bool true, .int .i64 k, u10, u11, u12, u13, u14, u15, u16, u17, u18, .func (.func 71) #[] #[.pointer (some ⟨X.heap.size + 1, 0, none⟩)], .int .i64 y.1, u21, u22, u23, u24, u25, u26], defers := [] }) ?assign ?body ?done ?stop
        case hI =>
          rintro A' pre X3 X4 row ⟨h1, h2, h3, h4, h5⟩ hgr hr
          refine ⟨HJ.out _ _ _ _ row h1.out hgr (fun r e => ⟨Nat.le_trans (by omega) (hr r e).1, (hr r e).2⟩), ⟨h2.out.1, kept_block hgr hr (by omega) h2.out.2⟩, kept_block hgr hr (by omega) h3.out, fun D hDD => kept_block hgr hr ?_ (h4.out D hDD), Nat.le_trans h5 hgr.size⟩
          exact (Array.getElem?_eq_some_iff.1 (hDZ.2 D hDD).2).1
        case hIx =>
          rintro c pre X3 X4 row ⟨h1, h2, h3⟩ hgr hr
          obtain ⟨pre', h4, h5⟩ := h2.out
          refine ⟨h1, ⟨pre', h4, HJX.out _ _ _ row h5 hgr (fun r e => ⟨Nat.le_trans (by omega) (hr r e).1, (hr r e).2⟩)⟩, fun D hDD => kept_block hgr hr ?_ (h3.out D hDD)⟩
          exact (Array.getElem?_eq_some_iff.1 (hDZ.2 D hDD).2).1
        case hgr =>
          rintro A' pre X3 o hs3 ⟨h1, h2, h3, h4, h5⟩
          exact ⟨HGR.out _ _ _ o h1.out, ⟨h2.out.1, h2.out.2.alloc _⟩, h3.out.alloc _, fun D hDD => (Below.heap_alloc _ _ _ (Array.getElem?_eq_some_iff.1 (h4.out D hDD)).1).trans (h4.out D hDD), by simp; omega⟩
        case hRdd =>
          rintro A' pre X3 ⟨h1, _⟩
          exact (HRD.out _ _ _ h1.out).1.2.2
        case h0c =>
          exact ⟨by show J _ _ _; simpa using hJZ.out, ⟨HI.out.1, hiZ⟩, hvZ, fun D hDD => (hDZ.2 D hDD).2, Nat.le_refl _⟩
        case assign =>
          intro l' y X' K hK
          gi_wp2
          exact hK
        case body =>
          rintro l2 A' pre y X5 _ _ ⟨hJ5, hI5, hv5, hD5, hs5⟩ _ _ hnx
          have c2 := hI5.out.2.cell
          have c3 := hv5.out.cell
          have hpre : edP zs k ++ (pre.unattach.map fun w => (k, w)) ++ [(k, y.1)] <+: edL zs := by
            have h1 : pre.unattach ++ [y.1] <+: mem (hiN zs k) := by
              have h2 : (pre ++ [y]).unattach <+: (memL (anot z M)).unattach := by
                obtain ⟨t, ht⟩ := hnx
                exact ⟨t.unattach, by rw [← ht]; simp [List.unattach_append]⟩
              rw [show (memL (anot z M)).unattach = mem (anot z M) from memL_val _, List.unattach_append] at h2
              rw [← HMM.out]
              exact h2
            obtain ⟨t, ht⟩ := h1
            refine List.IsPrefix.trans ?_ (edP_pre zs (show k + 1 ≤ zs.length by omega))
            rw [edP_succ]
            exact ⟨t.map fun w => (k, w), by rw [← ht]; simp⟩
          have HPRE := Lib.hid hpre
          obtain ⟨fn, tmps, assign, body, hyy, hRR⟩ := HY.out _ _ (k, y.1) X5 hJ5.out hpre
          clear hpre hnx
          gi_wp2
          refine ⟨fun _ => by omega, (roundIn_wide hRR).mono ?_⟩
          rintro e X6 ⟨hkf, (⟨rfl, hJ6, hA6⟩ | ⟨rfl, hJx6⟩)⟩
          · have hsz6 := hkf.size
            gi_wp2
            refine ⟨KeepsFrom.up hkf (by omega), ⟨trivial, fun q hq => hA6 q (List.mem_append_left _ hq)⟩, ?_, ⟨hI5.out.1, (hA6 _ (List.mem_append_right _ (List.mem_cons_of_mem _ hI5.out.1))).trans hI5.out.2⟩, (hA6 _ (List.mem_append_right _ List.mem_cons_self)).trans hv5.out, fun D hDD => hkf.same _ _ (hDZ.2 D hDD).1 (hD5.out D hDD) rfl, by omega⟩
            show J _ _ _
            rw [List.unattach_append, List.map_append, ← List.append_assoc]
            exact hJ6
          · gi_wp2
            exact ⟨KeepsFrom.up hkf (by omega), rfl, ⟨_, HPRE.out, hJx6⟩, fun D hDD => hkf.same _ _ (hDZ.2 D hDD).1 (hD5.out D hDD) rfl⟩
        case done =>
          rintro Dm A' ys X7 hDD rfl ⟨hJ7, hI7, hv7, hD7, hs7⟩ hK
          gi_wp2
          refine ⟨⟨k + 1, A' ++ X.heap.size :: A, Dm :: Ds, _, _, _, _, _, _, _, _, _, _, _, _, _, _, _, _, _, _, _, _, _, rfl, by omega, ?_, ⟨List.mem_append_right _ (List.mem_cons_of_mem _ hI7.out.1), hI7.out.2⟩, ?_, by omega⟩, ?_⟩
          · show J _ _ _
            have h := hJ7.out
            rw [show (memL (anot z M)).unattach = mem (anot z M) from memL_val _, HMM.out] at h
            rw [edP_succ]; exact h
          · refine ⟨List.nodup_cons.2 ⟨fun hDD' => ?_, hDZ.1⟩, fun E hE => ?_⟩
            · have := (Array.getElem?_eq_some_iff.1 (hDZ.2 Dm hDD').2).1; omega
            · rcases List.mem_cons.1 hE with rfl | hE
              · exact ⟨by omega, hK⟩
              · exact ⟨(hDZ.2 E hE).1, hD7.out E hE⟩
          · simp [intOf]; omega
        case stop =>
          rintro Dm c pre X7 hDD _ ⟨rfl, hJ7, hD7⟩ hK
          gi_wp2
          refine leaves_marksO (B := W.heap.size) (J := fun X => ∃ pre', pre' <+: edL zs ∧ Jx pre' X) ?_ (Dm :: Ds) _ ?_ hJ7.out fun W' hW' => ?_
          · rintro s X3 X4 row ⟨pre', h4, h5⟩ hgr hr
            exact ⟨pre', h4, HJX.out _ _ _ row h5 hgr hr⟩
          · refine ⟨List.nodup_cons.2 ⟨fun hDD' => ?_, hDZ.1⟩, fun E hE => ?_⟩
            · have := (Array.getElem?_eq_some_iff.1 (hDZ.2 Dm hDD').2).1; omega
            · rcases List.mem_cons.1 hE with rfl | hE
              · exact ⟨by omega, hK⟩
              · exact ⟨(hDZ.2 E hE).1, hD7.out E hE⟩
          · obtain ⟨pre', h4, h5⟩ := hW'
            exact ⟨_, results_none rfl _ _ _, ⟨_, rfl⟩, .inr ⟨pre', h4, h5⟩⟩
    · have hke : k = zs.length := by omega
      have HKF : Hid (J A (edL zs) X) := by show J _ _ _; unfold edL; rw [← hke]; exact HK.out
      have hR1 := (HRD.out _ _ _ HK.out).1
      obtain ⟨b0, b1, -, -⟩ := two_cells hR1.1
      clear hR1 hke HK
      gi_wp2
      refine leaves_marksO (B := W.heap.size) (J := fun X => J A (edL zs) X) (fun _ X3 X4 row h hgr hr => HJ.out A _ _ _ row h hgr hr) Ds _ hD HKF.out fun W' hW' => ?_
      exact ⟨_, results_none rfl _ _ _, ⟨_, rfl⟩, .inl (by first | exact ⟨A, hW'⟩ | exact ⟨_, A, rfl, hW'⟩)⟩

theorem edges_stops (n : Nat) (hn : 4 ≤ n) (a b off cap : Nat) (zs : List Int) (hg : isG zs.length zs = true) (w : World) :
    SeqO Fence.wide n Tryd.prog 63 #[.pointer (some ⟨a, 0, none⟩)] (fun x : Nat × Nat => #[.int .i64 x.1, .int .i64 x.2]) (fun _ _ => True) (fun _ X => RdE a b off cap zs X) (fun pre x => pre ++ [x] <+: edL zs) (fun ys => ys = edL zs) (fun pre => pre <+: edL zs) w := by
  intro l J Jx W _ hJ hJx hgrow hRd hY h0
  refine edges1_in n hn l a b off cap zs hg J Jx W hJ hJx hgrow hRd (fun A pre x X h hp => ?_) h0
  obtain ⟨fn, tmps, assign, body, h1, h2⟩ := hY A pre x X h hp
  exact ⟨fn, tmps, assign, body, h1, h2.mono fun e X' h3 => ⟨h3.1, h3.2.imp (fun h4 => ⟨h4.1, h4.2.1, h4.2.2.2⟩) id⟩⟩

theorem edgesIn_any (n : Int) (v : Value) (w : World) : Calls Tryd.prog 44 #[.agg #[.int .i64 n, v]] w fun e w' => e = .returned (.func (.func 63) #[] #[.pointer (some ⟨w.heap.size, 0, none⟩)]) ∧ w' = w.alloc (.cells #[.int .i64 n, v] 28) := by
  go_enter Tryd.func44, Tryd.ntmps44
  go_wp2
  go_ret
  exact ⟨rfl, rfl⟩
end Go.Proofs.YtibpnemeehkdbaaDoor
